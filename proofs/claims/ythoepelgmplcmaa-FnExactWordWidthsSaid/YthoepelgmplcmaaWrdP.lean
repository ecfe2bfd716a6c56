/-
  The widths of the words of a text, by the model: WordWidths by contract. Conditions: a font of lengths of at most 2^20, a text of at most 2^20 bytes.
-/
import Derived.Test.YthoepelgmplcmaaWrdI
import Derived.Test.YthoepelgmplcmaaWrdS
import Derived.StillTailTactics
namespace Go.Proofs.Ythoepelgmplcmaa
open Go.RowKit Go.Maps
set_option linter.unusedVariables false

theorem wSum_mono {f : Fnt} (h : fontB f = true) (s : ByteArray) (k : Nat) : ∀ d, wSum f s k ≤ wSum f s (k + d)
  | 0 => Int.le_refl _
  | d + 1 => by
    have h1 := wSum_mono h s k d
    have h2 := wAdd_le h s (k + d)
    show wSum f s k ≤ wSum f s (k + d) + wAdd f s (k + d)
    omega
theorem wwB_parts {f : Fnt} {s : ByteArray} (h : wwB f s = true) : fontB f = true ∧ (∀ x ∈ wordsB s, wAll f x x.size = true ∧ wSum f x x.size ≤ 2000) ∧ 1 ≤ (wordsB s).length ∧ (wordsB s).length ≤ 40 := by
  unfold wwB at h
  simp only [Bool.and_eq_true, List.all_eq_true] at h
  obtain ⟨h1, h2, h3⟩ := h
  obtain ⟨g1, g2, g3⟩ := textB_parts h3
  rw [List.length_map] at g2 g3
  refine ⟨h1, fun x hx => ⟨h2 x hx, ?_⟩, g2, g3⟩
  have := (g1 _ (List.mem_map.2 ⟨x, hx, rfl⟩)).2
  unfold wRes at this
  rw [if_pos (h2 x hx)] at this
  exact this
theorem wwB_big {f : Fnt} {s x : ByteArray} {k : Nat} (hx : x ∈ wordsB s) (hk : k ≤ x.size) (h : 2000 < wSum f x k) : wwB f s = false := by
  cases hb : wwB f s
  · rfl
  · obtain ⟨h1, h2, -⟩ := wwB_parts hb
    have := (h2 x hx).2
    have hm := wSum_mono h1 x k (x.size - k)
    rw [show k + (x.size - k) = x.size by omega] at hm
    omega
theorem wwB_count {f : Fnt} {s : ByteArray} (h : inB ((wordsB s).length : Int) 1 40 = false) : wwB f s = false := by
  cases hb : wwB f s
  · rfl
  · obtain ⟨h1, h2, h3, h4⟩ := wwB_parts hb
    have := (inB_iff ((wordsB s).length : Int) 1 40).2 ⟨by omega, by omega⟩
    rw [this] at h; cases h
theorem wSum_pos {f : Fnt} (h : fontB f = true) {s : ByteArray} : ∀ k, wAll f s k = true → (k : Int) ≤ wSum f s k
  | 0, _ => Int.le_refl _
  | k + 1, ha => by
    have h1 := wSum_pos h k (by
      unfold wAll at ha ⊢
      rw [List.range_succ, List.all_append, Bool.and_eq_true] at ha
      exact ha.1)
    have h2 := (wAdd_le h s k).2.2 (wAll_at ha (by omega))
    unfold wSum
    omega
theorem wwB_good {f : Fnt} {s : ByteArray} (h1 : fontB f = true) (h2 : ∀ x ∈ wordsB s, wAll f x x.size = true ∧ wSum f x x.size ≤ 2000) (h3 : inB ((wordsB s).length : Int) 1 40 = true) : wwB f s = true := by
  refine wwB_all h1 (List.all_eq_true.2 fun x hx => (h2 x hx).1) ?_
  unfold textB
  rw [List.length_map, h3, Bool.true_and, List.all_eq_true]
  intro y hy
  obtain ⟨x, hx, rfl⟩ := List.mem_map.1 hy
  obtain ⟨g1, g2⟩ := h2 x hx
  have hp := wordsB_pos hx
  have hs := wSum_pos h1 x.size g1
  unfold wRes wordB
  rw [if_pos g1]
  exact (inB_iff _ _ _).2 ⟨by omega, g2⟩
/-- the words before word j have keys and are not too wide -/
def wGood (f : Fnt) (x : ByteArray) : Bool := wAll f x x.size && decide (wSum f x x.size ≤ 2000)
theorem wGood_iff {f : Fnt} {x : ByteArray} : wGood f x = true ↔ wAll f x x.size = true ∧ wSum f x x.size ≤ 2000 := by
  unfold wGood; rw [Bool.and_eq_true, decide_eq_true_eq]
theorem wgood_step {f : Fnt} {ws : List ByteArray} {j : Nat} {x : ByteArray} (h : Hid ((ws.take j).all (wGood f) = true)) (hx : ws[j]? = some x) (h1 : wAll f x x.size = true) (h2 : wSum f x x.size ≤ 2000) : Hid ((ws.take (j + 1)).all (wGood f) = true) := by
  show _ = _
  rw [stake_at hx, List.all_append, h.out]
  simp [wGood_iff.2 ⟨h1, h2⟩]

set_option maxRecDepth 100000 in
set_option maxHeartbeats 1600000 in
theorem specWords_any (lo hi : Nat) (v : Value) (f : Fnt) (s : ByteArray) (w : World) (h : FontV w lo hi v f) (hhi : hi ≤ w.heap.size) (hsm : Small f) (hs : s.size ≤ 1048576) :
    Calls Try.prog 57 #[v, .string s] w fun e w' => ∃ u, e = .returned (.tuple #[u, .bool (wwB f s)]) ∧ Own w' w.heap.size u (wwL f s) ∧ Below w.heap.size w w' := by
  obtain ⟨A, d, A2, d2, hv, hrest⟩ := id h
  obtain ⟨p, hp⟩ : ∃ p, f.ws.length = p := ⟨_, rfl⟩
  obtain ⟨q, hq⟩ : ∃ p, f.cs.length = p := ⟨_, rfl⟩
  obtain ⟨t, ht⟩ : ∃ s, f.s = s := ⟨_, rfl⟩
  rw [hp, hq, ht] at hv
  have Ht := Lib.hid ht; have Hp := Lib.hid hp
  obtain ⟨w0, hw0, hb0, hz0, K0⟩ := mxWorld w #[.string t, .slice A p d, .slice A2 q d2] 25
  have HV := Lib.hid (h.below hhi hb0); have T0 := Lib.hid hb0; have HK0 := Lib.hid K0; have HSm := Lib.hid hsm
  have HIA := Lib.hid hrest.1
  rw [hv] at HV
  rw [hv]
  have z0 : w.heap.size < w0.heap.size := by omega
  clear h hv hrest hp hq ht hb0 hz0 K0 hsm
  go_enter Try.func57, Try.ntmps57
  go_wp2_with fail
  clear hw0
  refine (l6Words_any s _ hs).mono ?_
  rintro e w1 ⟨vw, rfl, hOw, hb1⟩
  obtain ⟨Aw, cw, rfl, hIw, -, hcw, hcm⟩ := hOw.form
  have hwl := wordsB_len s
  obtain ⟨ws, hws⟩ : ∃ l, wordsB s = l := ⟨_, rfl⟩
  rw [hws] at hIw hwl hcw ⊢
  obtain ⟨n, hn⟩ : ∃ n, ws.length = n := ⟨_, rfl⟩
  rw [hn] at hwl hcw ⊢
  have Hn := Lib.hid hn; have Hws := Lib.hid hws
  have T1 := Lib.hid (T0.out.trans (hb1.mono (by omega)))
  have HV1 := Lib.hid (HV.out.below (by omega) hb1); have HK1 := Lib.hid (HK0.out.below hb1 (by omega)); have z1 := hb1.size
  have HI1 := Lib.hid hIw
  have c0 : w1.cell? ⟨w.heap.size, 0, none⟩ = some (.string t) := cellOfBlk HK1.out 0
  have c1 : w1.cell? ⟨w.heap.size, 1, none⟩ = some (.slice A p d) := cellOfBlk HK1.out 1
  have c2 : w1.cell? ⟨w.heap.size, 2, none⟩ = some (.slice A2 q d2) := cellOfBlk HK1.out 2
  clear hb1 hOw hIw T0 HV HK0 hn hws hcw hcm
  cases hf : fontB f
  · have HZ := Lib.hid (wwB_font (s := s) hf)
    go_wp2_with fail
    refine (specFontOk_any lo hi _ f _ HV1.out (by omega) HSm.out).mono ?_
    rintro e w2 ⟨rfl, hb2⟩
    rw [hf]
    have HB2 := Lib.hid hb2; clear hb2
    go_wp2
    go_ret2
    exact ⟨_, by rw [HZ.out]; rfl, by rw [wwL_no HZ.out]; exact own_none _ _, T1.out.trans (HB2.out.mono (by omega))⟩
  have Hf := Lib.hid hf
  go_wp2_with fail
  refine (specFontOk_any lo hi _ f _ HV1.out (by omega) HSm.out).mono ?_
  rintro e w2 ⟨rfl, hb2⟩
  rw [hf]
  clear hf
  have T2 := Lib.hid (T1.out.trans (hb2.mono (by omega)))
  have HV2 := Lib.hid (HV1.out.below (by omega) hb2); have HK2 := Lib.hid (HK1.out.below hb2 (by omega)); have z2 := hb2.size
  have HI2 := Lib.hid (HI1.out.below hb2)
  clear hb2 T1 HV1 HK1 HI1 c0 c1 c2
  cases hin : inB (n : Int) 1 40
  · have HZ : Hid (wwB f s = false) := wwB_count (by rw [Hws.out, Hn.out]; exact hin)
    go_wp2_with fail
    refine (l1In_any _ _ _ _).mono ?_
    rintro e w3 ⟨rfl, rfl⟩
    rw [hin]
    go_wp2
    go_ret2
    exact ⟨_, by rw [HZ.out]; rfl, by rw [wwL_no HZ.out]; exact own_none _ _, T2.out⟩
  have Hin := Lib.hid hin
  go_wp2_with fail
  refine (l1In_any _ _ _ _).mono ?_
  rintro e w3 ⟨rfl, rfl⟩
  rw [hin]
  clear hin
  go_wp2
  have HE : Hid (Own (w2.alloc (.cells #[] 3)) w2.heap.size (.slice (some ⟨w2.heap.size, 0, none⟩) 0 0) []) := World.ownsRow_lit w2 #[] 0 (Nat.le_refl _) (Nat.zero_le _) rfl
  have HBE := Lib.hid ((Below.refl w2.heap.size w2).alloc (Nat.le_refl _) (.cells #[] 3))
  go_loopw [7, 27] (fun u i wr => ∃ j : Nat, j ≤ n ∧ i = .int .i64 j ∧ Own wr w2.heap.size u ((ws.take j).map (wRes f)) ∧ Hid ((ws.take j).all (wGood f) = true) ∧ Below w2.heap.size w2 wr) (fun _ i _ => n - (intOf i).toNat)
  case atStart => exact ⟨0, Nat.zero_le _, rfl, HE.out, rfl, HBE.out⟩
  case round =>
    clear HE HBE
    rename World => wo
    obtain ⟨j, hj, rfl, hO, hall, hb⟩ := hrel
    have HB := Lib.hid hb; have HO := Lib.hid hO
    have zr := hb.size
    have HIr := Lib.hid (HI2.out.below hb)
    have Hmj : Hid (((ws.take j).map (wRes f)).length ≤ 1048576) := by show _ ≤ _; simp; omega
    clear hb hO
    by_cases hlt : j < n
    · obtain ⟨ad, x, rfl, hx, hcx⟩ := HIr.out.at_ (k := j) (by rw [Hn.out]; exact hlt)
      have Hmem : Hid (x ∈ wordsB s) := by show _ ∈ _; rw [Hws.out]; exact smem_at hx.out
      have hxs : x.size ≤ 1048576 := by have := wordsB_size Hmem.out; omega
      have HST := Lib.hid (wstep (f := f) hx.out)
      go_wp2
      go_loopw [10, 11] (fun u2 i2 wq => ∃ k : Nat, k ≤ x.size ∧ i2 = .int .i64 k ∧ u2 = .int .i64 (wSum f x k) ∧ Hid (wAll f x k = true) ∧ Hid (wSum f x k ≤ 2000) ∧ Below wo.heap.size wo wq) (fun _ i2 _ => x.size - (intOf i2).toNat)
      case atStart => exact ⟨0, Nat.zero_le _, rfl, rfl, rfl, by show (0 : Int) ≤ 2000; decide, Below.refl _ _⟩
      case round =>
        rename World => wq
        obtain ⟨k, hk, rfl, rfl, hka, hks, hb⟩ := hrel
        have HBq := Lib.hid (HB.out.trans (hb.mono zr)); have HBr := Lib.hid hb
        have zq := hb.size
        clear hb
        have HVq := Lib.hid (HV2.out.below (by omega) HBq.out); have HKq := Lib.hid (HK2.out.below HBq.out (by omega))
        by_cases hlk : k < x.size
        · have c0 : wq.cell? ⟨w.heap.size, 0, none⟩ = some (.string t) := cellOfBlk HKq.out 0
          have c1 : wq.cell? ⟨w.heap.size, 1, none⟩ = some (.slice A p d) := cellOfBlk HKq.out 1
          have c2 : wq.cell? ⟨w.heap.size, 2, none⟩ = some (.slice A2 q d2) := cellOfBlk HKq.out 2
          have Hbt := Lib.hid (byt_eq hlk)
          go_wp2
          go_still_tail 5, (by kernel_rfl)
          change wpList _ _ _ _ _ wq.drew
          have HD := Lib.hid ((Below.refl wq.heap.size wq).drew)
          have HVd := Lib.hid (HVq.out.below (B := wq.heap.size) (by omega) HD.out)
          go_wp2_with fail
          refine (specKeyOf_any lo hi _ f _ _ HVd.out (by show _ ≤ wq.heap.size; omega) HSm.out).mono ?_
          rintro e w5 ⟨rfl, hb5⟩
          have HB5 := Lib.hid (HD.out.trans hb5); have HK5 := Lib.hid (HKq.out.below HB5.out (by omega)); have z5 := HB5.out.size
          have HI5 := Lib.hid ((HVq.out.below (B := wq.heap.size) (by omega) HB5.out))
          clear hb5 c0 c1 c2 HD HVd
          have d1 : w5.cell? ⟨w.heap.size, 1, none⟩ = some (.slice A p d) := cellOfBlk HK5.out 1
          have ek : keyI f (wrap64 ((x[k]'hlk).toNat : Int)) = keyI f (byt x k) := by
            have h1 := byt_lt x k
            rw [← Hbt.out]
            congr 1
            unfold wrap64
            omega
          rcases key_range Hf.out (byt x k) with hk1 | ⟨kk, hkk, hk1⟩
          · have HF : Hid (wHas f x k = false) := by show _ = _; unfold wHas; rw [hk1]; decide
            have HZ := Lib.hid (wwB_word Hmem.out (wAll_bad hlk HF.out))
            rw [ek, hk1]
            clear HF ek hk1
            go_wp2
            go_ret2
            exact ⟨_, by rw [HZ.out]; rfl, by rw [wwL_no HZ.out]; exact own_none _ _, T2.out.trans ((HBq.out.mono (by omega)).trans (HB5.out.mono (by omega)))⟩
          · have HW5 := Lib.hid (T2.out.trans ((HBq.out.mono (B' := w.heap.size) (by omega)).trans (HB5.out.mono (by omega))))
            have hjp : kk < p := by have := (fontB_ws Hf.out).1; rw [Hp.out] at this; omega
            obtain ⟨bd, y, rfl, hy, hcy⟩ := (HIA.out.below hhi HW5.out).ints.at_ (k := kk) (by rw [Hp.out]; exact hjp)
            have hxw : wAdd f x k = y := by unfold wAdd; rw [hk1, Int.toNat_natCast, getD_at hy.out]
            have HH : Hid (wAll f x (k + 1) = true) := wAll_succ hka.out (by unfold wHas; rw [hk1]; simp)
            have hS1 := (wSum_le Hf.out x k).1
            have hA1 := wAdd_le Hf.out x k
            obtain ⟨S, hS⟩ : ∃ S, wSum f x k = S := ⟨_, rfl⟩
            have HS : Hid (wSum f x (k + 1) = S + y) := by show _ = _; unfold wSum; rw [hS, hxw]
            have b2 := hks.out
            rw [hS] at hS1 b2
            rw [hxw] at hA1
            rw [ek, hk1, hS]
            have b3 : 0 ≤ y := hA1.1
            have b4 : y ≤ 60 := hA1.2.1
            clear hkk ek hk1 hy hxw hA1 hS hka hks
            by_cases hbig : 2000 < S + y
            · have HZ := Lib.hid (wwB_big (k := k + 1) Hmem.out (by omega) (by rw [HS.out]; exact hbig))
              go_wp2
              go_ret2
              exact ⟨_, by rw [HZ.out]; rfl, by rw [wwL_no HZ.out]; exact own_none _ _, HW5.out⟩
            · go_wp2
              go_roundw
              case rel => exact ⟨k + 1, by omega, by go_num, by rw [HS.out], HH, by show _ ≤ _; rw [HS.out]; omega, HBr.out.trans (HB5.out.mono (by omega))⟩
              case measure => simp [intOf]; omega
        · have hkn : k = x.size := by omega
          subst hkn
          have HOq := Lib.hid (HO.out.below HBr.out)
          have hzq : w2.heap.size ≤ wq.heap.size := by omega
          have HR : Hid (wRes f x = wSum f x x.size) := by show _ = _; unfold wRes; rw [if_pos hka.out]
          have HG := Lib.hid (wgood_step hall hx.out hka.out hks.out).out
          clear hka hks
          go_wp2_with (at_builtin; refine wpl_push2 _ rfl (.tmp 54) (.tmp 56) rfl w2.heap.size u7 _ (wSum f x x.size) rfl rfl HOq.out hzq Hmj.out ?_; intro v6 w6 hO6 hg6 hv6; have HO6 := Lib.hid hO6; have HG6 := Lib.hid hg6; clear hO6 hg6 hv6)
          have HB6 := Lib.hid (HBq.out.grown HG6.out hzq (fun k hk => (World.ownsRow.lt HOq.out k hk).1))
          go_roundw
          case rel => exact ⟨j + 1, by omega, by go_num, by rw [HST.out, HR.out]; exact HO6.out, HG.out, HB6.out⟩
          case measure => simp [intOf]; omega
    · have hjn : j = n := by omega
      subst hjn
      have HA : Hid (ws.take j = ws) := stake_all Hn.out
      have HZ : Hid (wwB f s = true) := by
        refine wwB_good Hf.out (fun x hx => ?_) (by rw [Hws.out, Hn.out]; exact Hin.out)
        rw [Hws.out, ← HA.out] at hx
        exact wGood_iff.1 (List.all_eq_true.1 hall.out x hx)
      go_wp2
      go_ret2
      refine ⟨_, by rw [HZ.out]; rfl, ?_, T2.out.trans (HB.out.mono (by omega))⟩
      rw [wwL_yes HZ.out, Hws.out, ← HA.out]
      exact own_mono HO.out (by omega)
end Go.Proofs.Ythoepelgmplcmaa
