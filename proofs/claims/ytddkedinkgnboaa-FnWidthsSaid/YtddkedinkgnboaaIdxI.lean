/-
  BreakingIndex of the program by contract. Conditions: lengths and capacities within the reach of a slice.
-/
import Derived.Test.YtddkedinkgnboaaPkC
import Derived.Test.YtddkedinkgnboaaPkD
namespace Go.Proofs.Ytddkedinkgnboaa
open Go.RowKit Go.Shelf
set_option linter.unusedVariables false
attribute [local go_sem] Oper.semAt_some

set_option maxRecDepth 100000 in
set_option maxHeartbeats 6400000 in
theorem implIndex_any (W t k : Int) (A : Option Addr) (n c : Nat) (zs : List Int) (Al : Option Addr) (q d : Nat) (ls : List Int) (w : World) (hn : zs.length = n) (hc : n ≤ c) (hcm : c ≤ maxLen) (h : Ints w A zs) (hq : ls.length = q) (hqm : q ≤ maxLen) (hl : Ints w Al ls) :
    Calls Try.prog 20 #[.agg #[.int .i64 W, .int .i64 t, .int .i64 k], .slice A n c, .slice Al q d] w fun e w' => e = .returned (.int .i64 (idxA ⟨W, t, k⟩ zs ls)) ∧ Below w.heap.size w w' := by
  have C := fun (w : World) (hI : Ints w A zs) (hL : Ints w Al ls) => implIsBreaking_any W t k A n c zs Al q d ls w hn hc hcm hI hq hqm hL
  obtain ⟨g, hg⟩ : ∃ g, w.heap.size = g := ⟨_, rfl⟩
  obtain ⟨w0, hw0, hb0, hz0, P⟩ := msWorld w W t k
  have HGz := Lib.hid hg
  have T0 := Lib.hid hb0; have P0 := Lib.hid P; have Z0 := Lib.hid hz0
  have I0 := Lib.hid ((IntsB.of h).keep (Nat.le_refl _) hb0); have L0 := Lib.hid ((IntsB.of hl).keep (Nat.le_refl _) hb0)
  rw [hg] at T0 P0 I0 L0 hz0 P
  have CC := Lib.hid C; have Hn := Lib.hid hn; have Hq := Lib.hid hq; have Hc := Lib.hid hc; have Hcm := Lib.hid hcm
  obtain ⟨p0, p1, p2⟩ := P
  unfold maxLen at hqm
  clear hb0 hn h C hc hcm hq hl
  cases ho : isBrk ⟨W, t, k⟩ zs ls
  · have HR : Hid (idxA ⟨W, t, k⟩ zs ls = -1) := by show _ = _; unfold idxA; rw [ho]; rfl
    have HO := Lib.hid ho
    clear ho hz0
    go_enter Try.func20, Try.ntmps20
    go_wp2_with fail
    clear hw0
    refine (CC.out _ I0.out.ints L0.out.ints).mono ?_
    rintro e w1 ⟨he, hb1⟩
    rw [HO.out] at he; subst he
    have T1 := Lib.hid (T0.out.trans (hb1.mono (B' := g) (by have := Z0.out; have := HGz.out; omega)))
    clear hb1 p0 p1 p2
    go_wp2
    go_ret
    exact ⟨ret_int HR.out.symm, by rw [HGz.out]; exact T1.out⟩
  have HR : Hid (idxA ⟨W, t, k⟩ zs ls = idxF ⟨W, t, k⟩ zs 0 ls) := by show _ = _; unfold idxA; rw [ho]; rfl
  have hq := ho
  unfold isBrk at hq
  rw [Bool.and_eq_true] at hq
  have HO := Lib.hid ho
  have HBr := Lib.hid hq.2
  have HM := Lib.hid (okW_parts hq.1)
  obtain ⟨-, hl1, hl2⟩ := textB_parts HM.out.2
  have hz40 : Hid (zs.length ≤ 40) := hl2
  rw [Hn.out] at hl1 hl2
  obtain ⟨ad, rfl⟩ := ints_some I0.out.ints (by rw [Hn.out]; exact hl1)
  clear hq ho
  refine (callsIn_wide (n := 9)).1 ?_
  refine callsIn_of_wp_marks Try.func20 rfl trivial ?_ rfl
  simp only [Try.ntmps20, List.size_toArray, List.length_cons, List.length_nil, Nat.reduceAdd, Nat.reduceSub, Array.replicate_succ, Array.replicate_zero, List.push_toArray, List.append_toArray, List.nil_append, List.cons_append]
  gi_wp2_with (first
    | ((try refine ⟨trivial, ?_⟩); gi_at_call 19; refine (callsIn_wide.2 (CC.out _ I0.out.ints L0.out.ints)).mono ?_; rintro e w1 ⟨he, hb1⟩; rw [HO.out] at he; subst he; have T1 := Lib.hid (T0.out.trans (hb1.mono (B' := g) (by omega))); have P1 := Lib.hid (hold3 hb1 (by omega) P0.out); have I1 := Lib.hid (I0.out.keep (by omega) hb1); have L1 := Lib.hid (L0.out.keep (by omega) hb1); have z1 : g < w1.heap.size := (by have := hb1.size; omega); clear hb1 p0 p1 p2 hw0; obtain ⟨p0, p1, p2⟩ := P1.out)
    | ((try refine ⟨trivial, ?_⟩); gi_at_call 47; refine (callsIn_wide.2 (counterOfG_any _ _ _ zs _)).mono ?_; rintro e w2 ⟨r, rfl, hr, hCM, hb2⟩))
  clear p0 p1 p2
  obtain ⟨sb, hsb⟩ : ∃ b, w1.heap.size = b := ⟨_, rfl⟩
  obtain ⟨kb, hkb⟩ : ∃ b, w2.heap.size = b := ⟨_, rfl⟩
  obtain ⟨fb, hfb⟩ : ∃ b, kb + 1 = b := ⟨_, rfl⟩
  obtain ⟨bb, hbb⟩ : ∃ b, fb + 1 = b := ⟨_, rfl⟩
  -- the world at the loop's head
  have bS : Below sb w1 (w1.alloc (.cells #[.int .i64 W, .int .i64 t, .int .i64 k, .slice (some ad) n c] 59)) := by rw [← hsb]; exact below_new _ _
  have S1 := Blk.new w1 #[.int .i64 W, .int .i64 t, .int .i64 k, .slice (some ad) n c] 59
  rw [hsb] at S1
  rw [World.size_alloc] at hr hb2
  rw [hsb] at hr hb2 z1
  have S2 := S1.below hb2 (by omega)
  have hrl : r < kb := by rw [← hkb]; exact hCM.lt
  have hz2 : sb + 1 ≤ kb := by have := hb2.size; rw [World.size_alloc, hsb, hkb] at this; exact this
  have P2 := hold3 hb2 (by omega) (hold3 bS (by omega) P1.out)
  have I2 := (I1.out.keep (by omega) bS).keep (B := sb + 1) (by omega) hb2
  have L2 := (L1.out.keep (by omega) bS).keep (B := sb + 1) (by omega) hb2
  have B2 := (T1.out.trans (bS.mono (B' := g) (by omega))).trans (hb2.mono (B' := g) (by omega))
  obtain ⟨w3, hw3⟩ : ∃ v, w2.alloc (.cells #[.slice (some ad) n c, .map (some r)] 63) = v := ⟨_, rfl⟩
  have b3 : Below kb w2 w3 := by rw [← hw3, ← hkb]; exact below_new _ _
  have z3 : w3.heap.size = fb := by rw [← hw3, ← hfb, ← hkb]; simp
  have K3 : Blk w3 kb #[.slice (some ad) n c, .map (some r)] 63 := by rw [← hw3, ← hkb]; exact Blk.new _ _ _
  obtain ⟨w4, hw4⟩ : ∃ v, w3.alloc (.cells #[.int .i64 0] 3) = v := ⟨_, rfl⟩
  have b4 : Below fb w3 w4 := by rw [← hw4, ← z3]; exact below_new _ _
  have z4 : w4.heap.size = bb := by rw [← hw4, ← hbb, ← z3]; simp
  have F4 : Blk w4 fb #[.int .i64 0] 3 := by rw [← hw4, ← z3]; exact Blk.new _ _ _
  obtain ⟨w5, hw5⟩ : ∃ v, w4.alloc (.cells #[.int .i64 0] 3) = v := ⟨_, rfl⟩
  have b5 : Below bb w4 w5 := by rw [← hw5, ← z4]; exact below_new _ _
  have z5 : w5.heap.size = bb + 1 := by rw [← hw5, ← z4]; simp
  have E5 : Blk w5 bb #[.int .i64 0] 3 := by rw [← hw5, ← z4]; exact Blk.new _ _ _
  have HOrd : IxOrd g sb kb fb bb r := ⟨by omega, by omega, by omega, by omega, by omega⟩
  have FS : Hid (IxSt w g sb kb fb bb r W t k ad n c zs Al ls 0 0 w5) := by
    have b35 : Below kb w2 w5 := (b3.trans (b4.mono (by omega))).trans (b5.mono (by omega))
    have hks : kb ≤ w2.heap.size := Nat.le_of_eq hkb.symm
    refine ⟨hold3 b35 (by omega) P2, S2.below b35 (by omega), (K3.below b4 (by omega)).below b5 (by omega), F4.below b5 (by omega), E5, ?_, I2.keep (by omega) b35, L2.keep (by omega) b35, B2.trans (b35.mono (by omega))⟩
    exact (hCM.anti (G' := fun k => k = fb ∨ k = bb) (fun k hk => by rcases hk with rfl | rfl <;> omega)).below (by rw [hkb]; exact b35)
  have HORD := Lib.hid HOrd
  have hq1 : w2.heap.size + 1 = fb := by omega
  have hq2 : fb + 1 = bb := hbb
  rw [hw3, hw4, hw5, hkb, hsb, hfb, hbb]
  clear hq1 hq2 hg hsb hkb hfb hbb bS S1 hr hb2 S2 hrl hz2 P2 I2 L2 B2 hw3 b3 z3 K3 hw4 b4 z4 F4 hw5 b5 E5 HOrd hCM P1 I1 L1 T1 z1 z5 hz0
  refine wpIn_loop (fun a' wr => ∃ (j p : Nat) (x : Int) (Ds : List Nat) (u12 u27 u28 u29 u30 u31 u32 u45 u46 u47 u48 : Value), a' = { tmps := #[(.agg #[.int .i64 W, .int .i64 t, .int .i64 k] : Value), .slice (some ad) n c, .slice Al q d, .pointer (some ⟨g, 0, none⟩), undef, undef, .int .i64 0, .pointer (some ⟨sb, 0, none⟩), .pointer (some ⟨kb, 0, none⟩), .pointer (some ⟨fb, 0, none⟩), .pointer (some ⟨bb, 0, none⟩), undef, u12, undef, .agg #[.int .i64 W, .int .i64 t, .int .i64 k], .slice (some ad) n c, .slice Al q d, .bool true, .bool false, .agg #[.int .i64 W, .int .i64 t, .int .i64 k], .slice (some ad) n c, .agg #[.int .i64 W, .int .i64 t, .int .i64 k, .slice (some ad) n c], .slice (some ad) n c, .agg #[.slice (some ad) n c, .map (some r)], .slice Al q d, .int .i64 q, .int .i64 j, u27, u28, u29, u30, u31, u32, undef, undef, undef, undef, undef, undef, undef, undef, undef, undef, undef, undef, u45, u46, u47, u48, undef], defers := Ds.map markOf } ∧ j ≤ q ∧ p ≤ n ∧ 0 ≤ x ∧ Hid (IxSt w g sb kb fb bb r W t k ad n c zs Al ls p x wr) ∧ Hid (brkF ⟨W, t, k⟩ zs p (ls.drop j) = true ∧ x + idxF ⟨W, t, k⟩ zs p (ls.drop j) = idxF ⟨W, t, k⟩ zs 0 ls) ∧ Hid (Marks wr Ds) ∧ Hid (Ds.Nodup) ∧ Hid (∀ D ∈ Ds, bb < D)) (fun a _ => q - (intOf (a.tmps.getD 26 undef)).toNat) ?_ ?_
  · exact ⟨0, 0, 0, [], undef, undef, undef, undef, undef, undef, undef, undef, undef, undef, undef, rfl, Nat.zero_le _, Nat.zero_le _, Int.le_refl _, FS.out, ⟨HBr.out, Int.zero_add _⟩, (fun D hD => by cases hD), List.nodup_nil, (fun D hD => by cases hD)⟩
  · rintro a' wr ⟨j, p, x, Ds, u12, u27, u28, u29, u30, u31, u32, u45, u46, u47, u48, rfl, hj, hp, hx0, HF, HB, HMk, HND, HGD⟩
    clear FS HBr
    by_cases hlt : j < q
    · obtain ⟨al, y, rfl, hx, hcx⟩ := HF.out.li.ints.at_ (k := j) (by rw [Hq.out]; exact hlt)
      obtain ⟨u, rfl, hu0, hun, hlw, hbr⟩ := brkF_yes hx.out HB.out.1
      have hidx := idxF_bound hz40.out (ls.drop (j + 1)) (p + u) hun hbr
      have hway := wayF_range (m := ⟨W, t, k⟩) hz40.out hun
      have hway0 := wayF_range (m := ⟨W, t, k⟩) hz40.out (Nat.zero_le zs.length)
      have hbef := befF_range (m := ⟨W, t, k⟩) hz40.out (show p ≤ zs.length by rw [Hn.out]; exact hp) (show p + u ≤ zs.length + 1 by omega)
      have hHB := HB.out.2
      rw [idxF_at hx.out, Int.toNat_natCast] at hHB
      have hall := idxF_bound hz40.out ls 0 (Nat.zero_le _) (by have := HO.out; unfold isBrk at this; rw [Bool.and_eq_true] at this; exact this.2)
      have HSUM := Lib.hid (sumTo_is (m := ⟨W, t, k⟩) hz40.out hx0 (by omega) (show p ≤ zs.length by rw [Hn.out]; exact hp) (zs.length + 1) (Nat.le_refl _) (show p + u ≤ zs.length + 1 by omega))
      have HX : Hid ((x + befF ⟨W, t, k⟩ zs p (p + u)) + idxF ⟨W, t, k⟩ zs (p + u) (ls.drop (j + 1)) = idxF ⟨W, t, k⟩ zs 0 ls) := by show _ = _; rw [← hHB]; omega
      have hx1 : 0 ≤ x + befF ⟨W, t, k⟩ zs p (p + u) := by omega
      have HBR := Lib.hid hbr
      rw [Hn.out] at hun
      obtain ⟨lim, hlim⟩ : ∃ z, p + u = z := ⟨_, rfl⟩
      have hcast : (p : Int) + (u : Int) = (lim : Int) := by omega
      have e2 : IntKind.i64.wrap (lim : Int) = (lim : Int) := by rw [IntKind.wrap_i64]; omega
      have hpn : p < n := by omega
      rw [hlim] at HSUM HX hx1 HBR hun
      have HSUM : Hid (sumTo ⟨W, t, k⟩ zs lim x (endsTo ⟨W, t, k⟩ zs p (n + 1)) = x + befF ⟨W, t, k⟩ zs p lim) := by show _ = _; have h1 := HSUM.out; rw [Hn.out, show min (n + 1) lim = lim by omega] at h1; exact h1
      clear hbr hlw hidx hway hway0 hbef hHB hall hlim
      -- the box of the line's number
      obtain ⟨wf, hwf⟩ : ∃ v, wr.alloc (.cells #[.int .i64 u] 3) = v := ⟨_, rfl⟩
      obtain ⟨nb, hnb⟩ : ∃ b, wr.heap.size = b := ⟨_, rfl⟩
      have bF : Below wr.heap.size wr wf := by rw [← hwf]; exact below_new _ _
      have zF : wf.heap.size = nb + 1 := by rw [← hwf, ← hnb]; simp
      have NF : Hid (Blk wf nb #[.int .i64 u] 3) := by show Blk _ _ _ _; rw [← hwf, ← hnb]; exact Blk.new _ _ _
      have SF := Lib.hid (HF.out.below HORD.out bF)
      have MF := Lib.hid (HMk.out.below bF HMk.out.lt)
      have hbbn : bb < nb := by rw [← hnb]; exact HF.out.be.lt
      have MLt := Lib.hid HMk.out.lt
      rw [hnb] at MLt
      obtain ⟨s0, s1, s2, s3⟩ := SF.out.st.st
      obtain ⟨f0, f1⟩ := SF.out.fr.one
      clear bF HF HMk
      gi_wp2_with ((try refine ⟨trivial, ?_⟩); gi_at_call 54; refine (callsIn_wide.2 (ends_any W t k ad n c p wf)).mono ?_; rintro e wg ⟨rfl, hwg⟩)
      rw [← hwg]

      have hz1 : wf.heap.size = nb + 1 := zF
      clear hwf s0 s1 s2 s3 f0 f1 hcx
      have bG : Below (nb + 1) wf wg := by rw [hwg, ← hz1]; exact ((Below.refl _ _).alloc (Nat.le_refl _) _).alloc (by simp) _
      have zG : wg.heap.size = nb + 3 := by rw [hwg]; simp [hz1]
      have sG : St wg (nb + 1) W t k (.slice (some ad) n c) := by rw [hwg, ← hz1]; exact St.hold (below_new _ _) (by simp) (Blk.new wf _ _).st
      have qG : wg.cell? ⟨nb + 2, 0, none⟩ = some (.int .i64 p) := by rw [hwg]; have h1 := (Blk.new (wf.alloc (.cells #[.int .i64 W, .int .i64 t, .int .i64 k, .slice (some ad) n c] 59)) #[.int .i64 p] 3).one.1; rwa [World.size_alloc, hz1] at h1
      have SG := Lib.hid (SF.out.below HORD.out (by rw [hz1]; exact bG))
      have MG := Lib.hid (MF.out.below bG (fun D hD => by rw [← hz1]; exact MF.out.lt D hD))
      have NG := Lib.hid (NF.out.below bG (by omega))
      clear hwg bG SF MF NF hz1 zF hnb
      have HW := Lib.hid (fun (v : World) (i : Nat) (hG : ∀ j, (j = fb ∨ j = bb) → j < v.heap.size) (hI : Ints v (some ad) zs) (hr : CMapG v r zs (fun k => k = fb ∨ k = bb)) (hi : i ≤ n) => cmWayG_any (fun k => k = fb ∨ k = bb) W t k ad n c r i zs v hG Hn.out Hc.out Hcm.out hI HM.out.1 HM.out.2 hr hi)
      have hgn : g ≤ nb := by have := HORD.out.a; have := HORD.out.b; have := HORD.out.c; have := HORD.out.d; have := HORD.out.e; omega
      refine wpIn_rangeFunc_ownG (α := EndT ⟨W, t, k⟩ zs p n) rfl (by omega) (gf := 74) (lb := #[.pointer (some ⟨nb + 2, 0, none⟩), .pointer (some ⟨nb + 1, 0, none⟩)]) rfl trivial (enters_of Try.func74 (by kernel_rfl) rfl)
        (ends_stops 8 (by omega) W t k ad n c p (nb + 1) g zs wg Hn.out Hc.out Hcm.out HM.out.1 HM.out.2 hpn SG.out.wd sG qG (by omega)) (fun h k => h.trans k) (fun V l o o' hl h _ _ => KpE.putObj o' (by omega) (by omega) hl h) (Below.refl _ _) (fun _ => rfl)
        (fun pre V => (IxSt w g sb kb fb bb r W t k ad n c zs (some al) ls p (sumTo ⟨W, t, k⟩ zs lim x (pre.map (fun (x : EndT ⟨W, t, k⟩ zs p n) => x.1))) V ∧ Blk V nb #[.int .i64 u] 3) ∧ Marks V Ds) (fun _ _ _ => False)
        (fun pre V V' r h hg hr => ⟨⟨h.1.1.keptC HORD.out hg (fun s e => ⟨by have h1 := (hr s e).1; omega, (hr s e).2⟩), h.1.2.kept hg (fun s e => (hr s e).2)⟩, h.2.kept hg (fun D hD e => by have h1 := (hr D e).1; have h2 := MG.out.lt D hD; omega)⟩)
        (fun _ _ _ _ _ h _ _ => h) ⟨⟨SG.out, NG.out⟩, MG.out⟩ (fun x => { tmps := #[(.agg #[.int .i64 W, .int .i64 t, .int .i64 k] : Value), .slice (some ad) n c, .slice (some al) q d, .pointer (some ⟨g, 0, none⟩), undef, undef, .int .i64 0, .pointer (some ⟨sb, 0, none⟩), .pointer (some ⟨kb, 0, none⟩), .pointer (some ⟨fb, 0, none⟩), .pointer (some ⟨bb, 0, none⟩), undef, .pointer (some ⟨nb, 0, none⟩), .int .i64 x.1, .agg #[.int .i64 W, .int .i64 t, .int .i64 k], .slice (some ad) n c, .slice (some al) q d, .bool true, .bool false, .agg #[.int .i64 W, .int .i64 t, .int .i64 k], .slice (some ad) n c, .agg #[.int .i64 W, .int .i64 t, .int .i64 k, .slice (some ad) n c], .slice (some ad) n c, .agg #[.slice (some ad) n c, .map (some r)], .slice (some al) q d, .int .i64 q, .int .i64 j, .bool true, .pointer (some (al.add j)), .int .i64 u, .agg #[.int .i64 W, .int .i64 t, .int .i64 k, .slice (some ad) n c], .int .i64 p, .func (.func 74) #[] #[.pointer (some ⟨nb + 2, 0, none⟩), .pointer (some ⟨nb + 1, 0, none⟩)], .int .i64 x.1, undef, undef, undef, undef, undef, undef, undef, undef, undef, undef, undef, u45, u46, u47, u48, undef], defers := [] }) ?assign ?body ?done ?stop
      case assign =>
        intro l x V K hK
        gi_wp2
        exact hK
      case body =>
        rintro l pre e V ⟨⟨hF, hN⟩, hMk⟩ hlen
        obtain ⟨i, hi1, hi2, hi3⟩ := e
        have HFb := Lib.hid hF; have HNb := Lib.hid hN; have HMb := Lib.hid hMk
        obtain ⟨f0, f1⟩ := hF.fr.one
        obtain ⟨n0, n1⟩ := hN.one
        clear hF hN hMk
        obtain ⟨X, hX⟩ : ∃ X, sumTo ⟨W, t, k⟩ zs lim x (pre.map (fun (x : EndT ⟨W, t, k⟩ zs p n) => x.1)) = X := ⟨_, rfl⟩
        rw [hX] at HFb
        have HSn := Lib.hid (sumTo_snoc ⟨W, t, k⟩ zs lim x (pre.map (fun (x : EndT ⟨W, t, k⟩ zs p n) => x.1)) i)
        rw [hX] at HSn
        have MD := Lib.hid (fun D hD => HGD.out D hD)
        have o1 := HORD.out.a; have o2 := HORD.out.b; have o3 := HORD.out.c; have o4 := HORD.out.d; have o5 := HORD.out.e
        clear hX
        by_cases hil : i < lim
        · have hil2 : (i : Int) < (lim : Int) := by omega
          rw [if_pos hil] at HSn
          have HGd : Hid (∀ j, (j = fb ∨ j = bb) → j < V.drew.heap.size) := by
            intro j hj
            have h1 := HFb.out.fr.lt; have h2 := HFb.out.be.lt
            show j < V.heap.size
            rcases hj with rfl | rfl <;> omega
          have HWd : Hid (Ints V.drew (some ad) zs) := HFb.out.wd.ints
          have HCd : Hid (CMapG V.drew r zs (fun k => k = fb ∨ k = bb)) := HFb.out.cm
          obtain ⟨y, hy⟩ : ∃ y, wayF ⟨W, t, k⟩ zs i = y := ⟨_, rfl⟩
          rw [hy] at HSn
          have HY := Lib.hid hy
          clear hy
          gi_wp2
          have hmx : Try.prog.follows .mixedOrders = true := by kernel_rfl
          refine wpIn_region_plan (.take 1 (.take 2 (.take 3 (.two 0 4 (.one 4 (.take 5 (.one 6 .done))) (.one 0 (.take 5 (.one 6 .done))))))) (fun w' => (w'.cell? ⟨kb, 0, none⟩ = some (.slice (some ad) n c) ∧ w'.cell? ⟨kb, 1, none⟩ = some (.map (some r))) ∧ w'.cell? ⟨g, 0, none⟩ = some (.int .i64 W) ∧ w'.cell? ⟨g, 1, none⟩ = some (.int .i64 t) ∧ w'.cell? ⟨g, 2, none⟩ = some (.int .i64 k)) hmx (by kernel_rfl) (by kernel_rfl) (fun hlo => (by obtain ⟨_, _, hlo⟩ := hlo; exact hlo)) (by kernel_rfl) (fun _ _ _ _ _ h => h) ⟨HFb.out.co.two, HFb.out.ms⟩ ?_
          iterate 3 (refine plan_quiet rfl (by rfl) (v := ?_) ?_ ?_; rotate_left; (intro w1 hSw; (try dsimp only at hSw); go_simp; try (with_reducible rfl)); (try simp only [Act.put, List.setIfInBounds_toArray, List.set_cons_zero, List.set_cons_succ]))
          obtain ⟨b0, b1⟩ := HFb.out.be.one
          refine plan_fork rfl rfl (fun K hK => ?_) (fun K hK => ?_)
          · go_simp
            refine hK.out _ _ ⟨HFb.out.co.two, HFb.out.ms⟩ ?_
            clear hK K
            refine plan_step rfl (fun K hK => ?_)
            go_wp2_with (go_at_call 48; refine (HW.out _ i HGd.out HWd.out HCd.out (by omega)).mono ?_; rintro e v2 ⟨rfl, hg2, hM2⟩; have HF2 := Lib.hid ((HFb.out.drewN 1).by_ HORD.out hg2 hM2); have HN2 := Lib.hid (HNb.out.by_ (w := V.drew) hg2 (by omega)); have HM2 := Lib.hid (HMb.out.kept (w := V.drew) hg2 (fun D hD e => by injection e with e; have := MD.out D hD; omega)); have KP2 := Lib.hid (KpE.by_ (b := nb + 1) hg2 (g := g) (by omega) (by omega)); have KF2 : Hid (KeepsFrom wg.heap.size V v2) := ⟨(KeepsFrom.of_grownBy (B := wg.heap.size) hg2 (fun j e => by cases e; omega)).size, (KeepsFrom.of_grownBy (B := wg.heap.size) hg2 (fun j e => by cases e; omega)).same⟩; obtain ⟨b0, b1⟩ := HF2.out.be.one; clear hg2 hM2)
            refine hK.out _ _ ⟨HF2.out.co.two, HF2.out.ms⟩ ?_
            clear hK K
            (refine plan_quiet rfl (by rfl) (v := ?_) ?_ ?_; rotate_left; (intro w1 hSw; (try dsimp only at hSw); go_simp; try (with_reducible rfl)); (try simp only [Act.put, List.setIfInBounds_toArray, List.set_cons_zero, List.set_cons_succ]))
            refine plan_step rfl (fun K hK => ?_)
            go_simp
            have HF3 := Lib.hid (HF2.out.setB HORD.out (IntKind.i64.wrap (X + wayF ⟨W, t, k⟩ zs i)))
            refine hK.out _ _ ⟨HF3.out.co.two, HF3.out.ms⟩ ?_
            clear hK K
            refine plan_end ?_
            refine ⟨KeepsFrom.trans KF2.out (KeepsFrom.of_grownBy (row := some bb) (grown_cell v2 ⟨bb, 0, none⟩ _) (fun j e => by cases e; omega)), KP2.out.trans (KpE.store _ (by show g ≤ bb; omega) (by show bb < nb + 1; omega)), ⟨⟨?_, ?_⟩, ?_⟩⟩
            · rw [List.map_append]
              show IxSt _ _ _ _ _ _ _ _ _ _ _ _ _ _ _ _ _ (sumTo ⟨W, t, k⟩ zs lim x (pre.map (fun (x : EndT ⟨W, t, k⟩ zs p n) => x.1) ++ [i])) _
              rw [HSn.out, ← HY.out, show wrap64 (X + wayF ⟨W, t, k⟩ zs i) = IntKind.i64.wrap (X + wayF ⟨W, t, k⟩ zs i) from by first | rfl | (rw [IntKind.wrap_i64]; rfl) | (unfold wrap64; rw [IntKind.wrap_i64])]
              exact HF3.out
            · exact HN2.out.other _ _ (by show nb ≠ bb; omega)
            · exact HM2.out.set (p := ⟨bb, 0, none⟩) _ ⟨_, HF2.out.be, rfl⟩
          · clear b0 b1
            go_wp2_with (go_at_call 48; refine (HW.out _ i HGd.out HWd.out HCd.out (by omega)).mono ?_; rintro e v2 ⟨rfl, hg2, hM2⟩; have HF2 := Lib.hid ((HFb.out.drewN 1).by_ HORD.out hg2 hM2); have HN2 := Lib.hid (HNb.out.by_ (w := V.drew) hg2 (by omega)); have HM2 := Lib.hid (HMb.out.kept (w := V.drew) hg2 (fun D hD e => by injection e with e; have := MD.out D hD; omega)); have KP2 := Lib.hid (KpE.by_ (b := nb + 1) hg2 (g := g) (by omega) (by omega)); have KF2 : Hid (KeepsFrom wg.heap.size V v2) := ⟨(KeepsFrom.of_grownBy (B := wg.heap.size) hg2 (fun j e => by cases e; omega)).size, (KeepsFrom.of_grownBy (B := wg.heap.size) hg2 (fun j e => by cases e; omega)).same⟩; obtain ⟨b0, b1⟩ := HF2.out.be.one; clear hg2 hM2)
            refine hK.out _ _ ⟨HF2.out.co.two, HF2.out.ms⟩ ?_
            clear hK K
            refine plan_step rfl (fun K hK => ?_)
            go_simp
            refine hK.out _ _ ⟨HF2.out.co.two, HF2.out.ms⟩ ?_
            clear hK K
            (refine plan_quiet rfl (by rfl) (v := ?_) ?_ ?_; rotate_left; (intro w1 hSw; (try dsimp only at hSw); go_simp; try (with_reducible rfl)); (try simp only [Act.put, List.setIfInBounds_toArray, List.set_cons_zero, List.set_cons_succ]))
            refine plan_step rfl (fun K hK => ?_)
            go_simp
            have HF3 := Lib.hid (HF2.out.setB HORD.out (IntKind.i64.wrap (X + wayF ⟨W, t, k⟩ zs i)))
            refine hK.out _ _ ⟨HF3.out.co.two, HF3.out.ms⟩ ?_
            clear hK K
            refine plan_end ?_
            refine ⟨KeepsFrom.trans KF2.out (KeepsFrom.of_grownBy (row := some bb) (grown_cell v2 ⟨bb, 0, none⟩ _) (fun j e => by cases e; omega)), KP2.out.trans (KpE.store _ (by show g ≤ bb; omega) (by show bb < nb + 1; omega)), ⟨⟨?_, ?_⟩, ?_⟩⟩
            · rw [List.map_append]
              show IxSt _ _ _ _ _ _ _ _ _ _ _ _ _ _ _ _ _ (sumTo ⟨W, t, k⟩ zs lim x (pre.map (fun (x : EndT ⟨W, t, k⟩ zs p n) => x.1) ++ [i])) _
              rw [HSn.out, ← HY.out, show wrap64 (X + wayF ⟨W, t, k⟩ zs i) = IntKind.i64.wrap (X + wayF ⟨W, t, k⟩ zs i) from by first | rfl | (rw [IntKind.wrap_i64]; rfl) | (unfold wrap64; rw [IntKind.wrap_i64])]
              exact HF3.out
            · exact HN2.out.other _ _ (by show nb ≠ bb; omega)
            · exact HM2.out.set (p := ⟨bb, 0, none⟩) _ ⟨_, HF2.out.be, rfl⟩
        · have hil2 : decide ((i : Int) < (lim : Int)) = false := decide_eq_false (by omega)
          rw [if_neg hil] at HSn
          gi_wp2
          refine ⟨KeepsFrom.refl _ _, KpE.refl _ _ _, ⟨⟨?_, HNb.out⟩, HMb.out⟩⟩
          rw [List.map_append]
          show IxSt _ _ _ _ _ _ _ _ _ _ _ _ _ _ _ _ _ (sumTo ⟨W, t, k⟩ zs lim x (pre.map (fun (x : EndT ⟨W, t, k⟩ zs p n) => x.1) ++ [i])) _
          rw [HSn.out]
          exact HFb.out
      case done =>
        rintro D xs V hD hS ⟨⟨hF, hN⟩, hMk⟩ hK
        have HF2 := Lib.hid hF; have HM2 := Lib.hid hMk; have HK2 := Lib.hid hK
        obtain ⟨f0, f1⟩ := hF.fr.one
        obtain ⟨n0, n1⟩ := hN.one
        rw [hS] at HF2
        rw [HSUM.out] at HF2
        clear hF hN hMk hK
        gi_wp2
        have hDs : D ∉ Ds := fun hd2 => by have h2 := MG.out.lt D hd2; omega
        have o1 := HORD.out.a; have o2 := HORD.out.b; have o3 := HORD.out.c; have o4 := HORD.out.d; have o5 := HORD.out.e
        have HM3 : Marks V (D :: Ds) := fun D' hD' => by
          rw [List.mem_cons] at hD'
          rcases hD' with rfl | hD'
          · exact HK2.out
          · exact HM2.out D' hD'
        refine ⟨⟨j + 1, lim, x + befF ⟨W, t, k⟩ zs p lim, D :: Ds, _, _, _, _, _, _, _, _, _, _, _, rfl, by omega, hun, hx1, HF2.out.setF HORD.out lim, ⟨HBR.out, HX.out⟩, HM3.set _ ⟨_, HF2.out.fr, rfl⟩, List.nodup_cons.2 ⟨hDs, HND.out⟩, ?_⟩, ?_⟩
        · intro D' hD'
          rw [List.mem_cons] at hD'
          rcases hD' with rfl | hD'
          · omega
          · exact HGD.out D' hD'
        · simp [intOf]; omega
      case stop =>
        rintro D c' pre V _ _ h _
        exact h.elim
    · obtain rfl : j = q := by omega
      obtain ⟨b0, b1⟩ := HF.out.be.one
      have HE : Hid (x = idxF ⟨W, t, k⟩ zs 0 ls) := by show _ = _; have h := HB.out.2; rw [idxF_end Hq.out] at h; omega
      gi_wp2
      exact leaves_marks (bb + 1) (fun v => Below g w v) (fun v D hgD h hD => below_putObj h hD (by have o1 := HORD.out.a; have o2 := HORD.out.b; have o3 := HORD.out.c; have o4 := HORD.out.d; have o5 := HORD.out.e; omega)) (fun v h => ⟨_, results_tmp rfl _ _ _, ret_int (by rw [HR.out, HE.out]), by rw [HGz.out]; exact h⟩) Ds wr HND.out (fun D hD => HGD.out D hD) HMk.out HF.out.bl
end Go.Proofs.Ytddkedinkgnboaa
