/-
  fromEachWord of the program with the function of the least costs, and leastCosts, by contract. Conditions: the measure is one, the words are a text.
-/
import Derived.Test.YtddkedinkgnboaaPkB
import Derived.Test.YtddkedinkgnboaaPkD
namespace Go.Proofs.Ytddkedinkgnboaa
open Go.RowKit Go.Shelf
set_option linter.unusedVariables false
attribute [local go_sem] Oper.semAt_some

theorem wrap_is (x : Int) : wrap64 x = IntKind.i64.wrap x := by first | rfl | (rw [IntKind.wrap_i64]; rfl) | (unfold wrap64; rw [IntKind.wrap_i64])
set_option maxRecDepth 100000 in
set_option maxHeartbeats 1600000 in
theorem leastFn_any (W t k : Int) (ad : Addr) (n c sb : Nat) (acc b : Int) (i j : Nat) (zs : List Int) (w : World) (hn : zs.length = n) (hc : n ≤ c) (hcm : c ≤ maxLen) (h : Ints w (some ad) zs) (hm : msrB ⟨W, t, k⟩ = true) (ht : textB zs = true) (hS : Blk w sb #[.int .i64 W, .int .i64 t, .int .i64 k, .slice (some ad) n c] 59) (hij : i < j) (hj : j ≤ n) :
    Calls Try.prog 77 #[.int .i64 acc, .int .i64 i, .int .i64 j, .int .i64 b, .pointer (some ⟨sb, 0, none⟩)] w fun e w' => e = .returned (.int .i64 (addL ⟨W, t, k⟩ zs acc i j b)) ∧ Below w.heap.size w w' := by
  have HC := Lib.hid (stCost_any W t k ad n c zs i j w hn hc hcm h hm ht hij hj)
  have HA : Hid (addL ⟨W, t, k⟩ zs acc i j b = min acc (IntKind.i64.wrap (costW ⟨W, t, k⟩ zs i j + b))) := by show _ = _; unfold addL; rw [wrap_is]
  obtain ⟨x, hx⟩ : ∃ x, costW ⟨W, t, k⟩ zs i j = x := ⟨_, rfl⟩
  rw [hx] at HC HA
  obtain ⟨y, hy⟩ : ∃ y, IntKind.i64.wrap (x + b) = y := ⟨_, rfl⟩
  have hy2 : wrap64 (x + b) = y := by rw [wrap_is]; exact hy
  rw [hy] at HA
  obtain ⟨s0, s1, s2, s3⟩ := hS.st
  clear hx hS h hm ht hn hc hcm hij hj
  by_cases hle : acc ≤ y
  · have HM : Hid (min acc y = acc) := by show _ = _; omega
    go_enter Try.func77, Try.ntmps77
    go_wp2_with (go_at_call 62; refine HC.out.mono ?_; rintro e w2 ⟨rfl, hb2⟩; have HB2 := Lib.hid hb2; clear hb2)
    go_ret
    exact ⟨ret_int (by rw [HA.out]; first | rw [HM.out] | (simp; omega) | omega), HB2.out⟩
  · have HM : Hid (min acc y = y) := by show _ = _; omega
    go_enter Try.func77, Try.ntmps77
    go_wp2_with (go_at_call 62; refine HC.out.mono ?_; rintro e w2 ⟨rfl, hb2⟩; have HB2 := Lib.hid hb2; clear hb2)
    go_ret
    exact ⟨ret_int (by rw [HA.out]; first | rw [HM.out] | (simp; omega) | omega), HB2.out⟩

set_option maxRecDepth 100000 in
set_option maxHeartbeats 6400000 in
theorem eachL_any (W t k : Int) (ad : Addr) (n c : Nat) (zs : List Int) (w : World) (hn : zs.length = n) (hc : n ≤ c) (hcm : c ≤ maxLen) (h : Ints w (some ad) zs) (hm : msrB ⟨W, t, k⟩ = true) (ht : textB zs = true) (sb : Nat) (hSB : Blk w sb #[.int .i64 W, .int .i64 t, .int .i64 k, .slice (some ad) n c] 59) :
    Calls Try.prog 76 #[stV W t k ad n c, .int .i64 0, .int .i64 400000, .func (.func 77) #[] #[.pointer (some ⟨sb, 0, none⟩)]] w fun e w' => ∃ N1, N1 = n + 1 ∧ e = .returned (.slice (some ⟨w.heap.size + 2, 0, none⟩) N1 N1) ∧ Own w' w.heap.size (.slice (some ⟨w.heap.size + 2, 0, none⟩) N1 N1) (rowE ⟨W, t, k⟩ zs (addL ⟨W, t, k⟩ zs) 0 400000 n) ∧ Below w.heap.size w w' := by
  obtain ⟨hz, hl1, hl2⟩ := textB_parts ht
  rw [hn] at hl1 hl2
  obtain ⟨N1, hN1⟩ : ∃ N1, n + 1 = N1 := ⟨_, rfl⟩
  obtain ⟨g, hg⟩ : ∃ g, w.heap.size = g := ⟨_, rfl⟩
  have Hn := Lib.hid hn; have Hc := Lib.hid hc; have Hcm := Lib.hid hcm; have HM := Lib.hid hm; have HT := Lib.hid ht; have HN1 := Lib.hid hN1; have HG := Lib.hid hg
  have HI : Hid (IntsB w g (some ad) zs) := by show IntsB _ _ _ _; rw [← hg]; exact IntsB.of h
  have hcast : (n : Int) + 1 = (N1 : Int) := by omega
  have e1 : IntKind.i64.wrap ((n : Int) + 1) = (N1 : Int) := by rw [IntKind.wrap_i64]; omega
  have hw1 : IntKind.i64.wrap ((n : Int) - 1) = (n : Int) - 1 := by rw [IntKind.wrap_i64]; omega
  -- the world with the two boxes
  obtain ⟨wa, hwa⟩ : ∃ wa, (w.alloc (.cells #[.int .i64 W, .int .i64 t, .int .i64 k, .slice (some ad) n c] 59)).alloc (.cells #[.func (.func 77) #[] #[.pointer (some ⟨sb, 0, none⟩)]] 88) = wa := ⟨_, rfl⟩
  have bA : Below g w wa := by rw [← hg, ← hwa]; exact (below_new _ _).trans ((below_new _ _).mono (by simp))
  have zA : wa.heap.size = g + 2 := by rw [← hwa, ← hg]; simp
  have sA : Blk wa g #[.int .i64 W, .int .i64 t, .int .i64 k, .slice (some ad) n c] 59 := by rw [← hwa, ← hg]; exact (Blk.new w _ _).below (below_new _ _) (by simp)
  have fA : Blk wa (g + 1) #[.func (.func 77) #[] #[.pointer (some ⟨sb, 0, none⟩)]] 88 := by rw [← hwa, ← hg]; have := Blk.new (w.alloc (.cells #[.int .i64 W, .int .i64 t, .int .i64 k, .slice (some ad) n c] 59)) #[.func (.func 77) #[] #[.pointer (some ⟨sb, 0, none⟩)]] 88; rwa [World.size_alloc] at this
  have BA := Lib.hid bA; have ZA := Lib.hid zA; have SA := Lib.hid sA; have FA := Lib.hid fA
  obtain ⟨s0, s1, s2, s3⟩ := sA.st
  have HSB := Lib.hid hSB
  have HSBl : Hid (sb < g) := by show _ < _; rw [← hg]; exact hSB.lt
  clear bA sA fA hSB hn hc hcm h hm ht hN1 hz
  refine (callsIn_wide (n := 9)).1 ?_
  refine callsIn_of_wp_marks Try.func76 rfl trivial ?_ rfl
  simp only [Try.ntmps76, List.size_toArray, List.length_cons, List.length_nil, Nat.reduceAdd, Nat.reduceSub, Array.replicate_succ, Array.replicate_zero, List.push_toArray, List.append_toArray, List.nil_append, List.cons_append]
  rw [HG.out]
  gi_wp2_with (gi_at_make; refine wplI_make_int wa rfl (.tmp 15) rfl N1 (N1 : Int) rfl rfl (by omega) ?_; intro wb hO hb; obtain ⟨wc, wd, hwc, hwd, zB, zC, zD, ST, SD, vC, ⟨y0, hy0⟩, hfz, FD⟩ := each_start w wa wb g n N1 W t k (.slice (some ad) n c) (.func (.func 77) #[] #[.pointer (some ⟨sb, 0, none⟩)]) 0 zs BA.out ZA.out SA.out FA.out HN1.out Hn.out hO hb; (have FD := Lib.hid FD); obtain ⟨c0, c1, c2, c3⟩ := ST; obtain ⟨d0, d1, d2, d3⟩ := SD; obtain ⟨v0, v1⟩ := vC; clear hO hb s0 s1 s2 s3 hwa)
  clear hwc hwd c0 c1 c2 c3 d0 d1 d2 d3 v0 v1 hy0 hfz zA
  obtain ⟨vb, hvb⟩ : ∃ vb, wb.heap.size = vb := ⟨_, rfl⟩
  rw [hvb] at FD zB zD ⊢
  clear zC hvb
  have FS := Lib.hid (FD.out (vb + 1) ((n : Int) - 1) rfl)
  obtain ⟨we, hwe⟩ : ∃ we, wd.alloc (.cells #[.int .i64 ((n : Int) - 1)] 3) = we := ⟨_, rfl⟩
  rw [hwe] at FS ⊢
  clear FD hwe zD
  refine wpIn_loop (fun a' wr => ∃ (d fb : Nat) (Ds : List Nat) (u27 u28 u29 u30 u31 u32 u33 u34 u35 u36 u37 u38 u39 u40 u41 u42 u43 u44 u45 u46 u47 u48 u49 u50 u51 u52 u53 u54 : Value), a' = { tmps := #[(stV W t k ad n c : Value), .int .i64 0, .int .i64 400000, .func (.func 77) #[] #[.pointer (some ⟨sb, 0, none⟩)], .pointer (some ⟨g, 0, none⟩), undef, undef, .pointer (some ⟨g + 1, 0, none⟩), .slice none 0 0, .pointer (some ⟨vb, 0, none⟩), .pointer (some ⟨fb, 0, none⟩), undef, .pointer (some ⟨g, 3, none⟩), .slice (some ad) n c, .int .i64 n, .int .i64 N1, .slice (some ⟨g + 2, 0, none⟩) N1 N1, .slice (some ⟨g + 2, 0, none⟩) N1 N1, .pointer (some ⟨g, 3, none⟩), .slice (some ad) n c, .int .i64 n, .int .i64 0, .pointer (some ⟨g + 2, n, none⟩), .pointer (some ⟨g, 3, none⟩), .slice (some ad) n c, .int .i64 n, .int .i64 ((n : Int) - 1), u27, u28, u29, u30, u31, u32, u33, u34, u35, u36, u37, u38, u39, u40, u41, u42, u43, u44, u45, u46, u47, u48, u49, u50, u51, u52, u53, u54, undef], defers := Ds.map markOf } ∧ d ≤ n ∧ Hid (FeSt w g vb #[.int .i64 W, .int .i64 t, .int .i64 k, .slice (some ad) n c] (.func (.func 77) #[] #[.pointer (some ⟨sb, 0, none⟩)]) (.slice (some ⟨g + 2, 0, none⟩) N1 N1) fb ((n : Int) - 1 - d) (rowE ⟨W, t, k⟩ zs (addL ⟨W, t, k⟩ zs) 0 400000 d) wr) ∧ Hid (Marks wr Ds) ∧ Hid (Ds.Nodup) ∧ Hid (∀ D ∈ Ds, g ≤ D) ∧ vb < fb) leftE ?_ ?_
  · exact ⟨0, vb + 1, [], undef, undef, undef, undef, undef, undef, undef, undef, undef, undef, undef, undef, undef, undef, undef, undef, undef, undef, undef, undef, undef, undef, undef, undef, undef, undef, undef, undef, rfl, Nat.zero_le _, by have h := FS.out; rw [show (n : Int) - 1 - ((0 : Nat) : Int) = (n : Int) - 1 by omega]; exact h, (fun D hD => by cases hD), List.nodup_nil, (fun D hD => by cases hD), Nat.lt_succ_self _⟩
  · rintro a' wr ⟨d, fb, Ds, u27, u28, u29, u30, u31, u32, u33, u34, u35, u36, u37, u38, u39, u40, u41, u42, u43, u44, u45, u46, u47, u48, u49, u50, u51, u52, u53, u54, rfl, hd, HF, HMk, HND, HGD, hvf⟩
    clear FS
    obtain ⟨f0, f1⟩ := HF.out.fr.one
    obtain ⟨v0, v1⟩ := HF.out.va.one
    obtain ⟨s0, s1, s2, s3⟩ := HF.out.st.st
    by_cases hlt : d < n
    · obtain ⟨q, hq⟩ : ∃ q : Nat, n - 1 - d = q := ⟨_, rfl⟩
      have hqn : q < n := by omega
      have hqi : (n : Int) - 1 - (d : Int) = (q : Int) := by omega
      have HLE := Lib.hid (show leftE { tmps := #[(stV W t k ad n c : Value), .int .i64 0, .int .i64 400000, .func (.func 77) #[] #[.pointer (some ⟨sb, 0, none⟩)], .pointer (some ⟨g, 0, none⟩), undef, undef, .pointer (some ⟨g + 1, 0, none⟩), .slice none 0 0, .pointer (some ⟨vb, 0, none⟩), .pointer (some ⟨fb, 0, none⟩), undef, .pointer (some ⟨g, 3, none⟩), .slice (some ad) n c, .int .i64 n, .int .i64 N1, .slice (some ⟨g + 2, 0, none⟩) N1 N1, .slice (some ⟨g + 2, 0, none⟩) N1 N1, .pointer (some ⟨g, 3, none⟩), .slice (some ad) n c, .int .i64 n, .int .i64 0, .pointer (some ⟨g + 2, n, none⟩), .pointer (some ⟨g, 3, none⟩), .slice (some ad) n c, .int .i64 n, .int .i64 ((n : Int) - 1), u27, u28, u29, u30, u31, u32, u33, u34, u35, u36, u37, u38, u39, u40, u41, u42, u43, u44, u45, u46, u47, u48, u49, u50, u51, u52, u53, u54, undef], defers := Ds.map markOf } wr = q + 1 by simp only [leftE]; simp [f0, hqi])
      rw [hqi] at f0 HF
      have hqN : q < N1 := by omega
      have Hlen : Hid ((rowE ⟨W, t, k⟩ zs (addL ⟨W, t, k⟩ zs) 0 400000 d).length = N1) := by show _ = _; rw [rowE_len, Hn.out]; exact HN1.out
      obtain ⟨⟨y0, hy0⟩, hfz, -⟩ := own_store HF.out.ro Hlen.out hqN
      have SF := Lib.hid (HF.out.store Hlen.out zB (by omega) hqN 400000)
      have MF := Lib.hid (HMk.out.set (p := ⟨g + 2, q, none⟩) (.int .i64 400000) (own_block HF.out.ro))
      obtain ⟨wf, hwf⟩ : ∃ wf, wr.setCell ⟨g + 2, q, none⟩ (.int .i64 400000) = wf := ⟨_, rfl⟩
      rw [hwf] at SF MF
      obtain ⟨f2, f3⟩ := SF.out.fr.one
      obtain ⟨t0, t1, t2, t3⟩ := SF.out.st.st
      gi_wp2_with ((try refine ⟨trivial, ?_⟩); gi_at_call 54; refine (callsIn_wide.2 (ends_any W t k ad n c q wf)).mono ?_; rintro e wg ⟨rfl, hwg⟩)
      rw [← hwg]
      clear hwf f0 f1 v0 v1 s0 s1 s2 s3 f2 f3 t0 t1 t2 t3 hy0 hfz HF HMk
      obtain ⟨b, hb⟩ : ∃ b, wf.heap.size = b := ⟨_, rfl⟩
      have bG : Below b wf wg := by rw [hwg, ← hb]; exact ((Below.refl _ _).alloc (Nat.le_refl _) _).alloc (by simp) _
      have zG : wg.heap.size = b + 2 := by rw [hwg, ← hb]; simp
      have sG : St wg b W t k (.slice (some ad) n c) := by rw [hwg, ← hb]; exact St.hold (below_new _ _) (by simp) (Blk.new wf _ _).st
      have qG : wg.cell? ⟨b + 1, 0, none⟩ = some (.int .i64 q) := by rw [hwg, ← hb]; have h1 := (Blk.new (wf.alloc (.cells #[.int .i64 W, .int .i64 t, .int .i64 k, .slice (some ad) n c] 59)) #[.int .i64 q] 3).one.1; rwa [World.size_alloc] at h1
      have SG := Lib.hid (SF.out.below (by rw [hb]; exact bG) (by have := SF.out.st.lt; omega))
      have MG := Lib.hid (MF.out.below bG (fun D hD => by rw [← hb]; exact MF.out.lt D hD))
      have hfb : fb < b := by rw [← hb]; exact SF.out.fr.lt
      rw [hb]
      have IG : IntsB wg g (some ad) zs := (HI.out.keep (Nat.le_refl _) SG.out.bl)
      clear hwg bG hb SF MF
      refine wpIn_rangeFunc_ownG (α := EndT ⟨W, t, k⟩ zs q n) rfl (by omega) (gf := 74) (lb := #[.pointer (some ⟨b + 1, 0, none⟩), .pointer (some ⟨b, 0, none⟩)]) rfl trivial (enters_of Try.func74 (by kernel_rfl) rfl)
        (ends_stops 8 (by omega) W t k ad n c q b g zs wg Hn.out Hc.out Hcm.out HM.out HT.out hqn IG sG qG (by omega)) (fun h k => h.trans k) (fun V l o o' hl h _ _ => KpE.putObj o' (by omega) (by omega) hl h) (Below.refl _ _) (fun _ => rfl)
        (fun pre V => FeSt w g vb #[.int .i64 W, .int .i64 t, .int .i64 k, .slice (some ad) n c] (.func (.func 77) #[] #[.pointer (some ⟨sb, 0, none⟩)]) (.slice (some ⟨g + 2, 0, none⟩) N1 N1) fb (q : Int) ((rowE ⟨W, t, k⟩ zs (addL ⟨W, t, k⟩ zs) 0 400000 d).set q (accE (addL ⟨W, t, k⟩ zs) 400000 q (rowE ⟨W, t, k⟩ zs (addL ⟨W, t, k⟩ zs) 0 400000 d) (pre.map (fun (x : EndT ⟨W, t, k⟩ zs q n) => x.1)))) V ∧ Marks V Ds) (fun _ _ _ => False)
        (fun pre V V' r h hg hr => ⟨h.1.keptC hg (fun s e => ⟨by have h1 := (hr s e).1; omega, (hr s e).2⟩), h.2.kept hg (fun D hD e => by have h1 := (hr D e).1; have h2 := MG.out.lt D hD; omega)⟩)
        (fun _ _ _ _ _ h _ _ => h) ⟨SG.out, MG.out⟩ (fun x => { tmps := #[(stV W t k ad n c : Value), .int .i64 0, .int .i64 400000, .func (.func 77) #[] #[.pointer (some ⟨sb, 0, none⟩)], .pointer (some ⟨g, 0, none⟩), undef, undef, .pointer (some ⟨g + 1, 0, none⟩), .slice none 0 0, .pointer (some ⟨vb, 0, none⟩), .pointer (some ⟨fb, 0, none⟩), .int .i64 x.1, .pointer (some ⟨g, 3, none⟩), .slice (some ad) n c, .int .i64 n, .int .i64 N1, .slice (some ⟨g + 2, 0, none⟩) N1 N1, .slice (some ⟨g + 2, 0, none⟩) N1 N1, .pointer (some ⟨g, 3, none⟩), .slice (some ad) n c, .int .i64 n, .int .i64 0, .pointer (some ⟨g + 2, n, none⟩), .pointer (some ⟨g, 3, none⟩), .slice (some ad) n c, .int .i64 n, .int .i64 ((n : Int) - 1), .int .i64 q, .bool true, u29, u30, .slice (some ⟨g + 2, 0, none⟩) N1 N1, .int .i64 q, .int .i64 400000, .pointer (some ⟨g + 2, q, none⟩), .agg #[.int .i64 W, .int .i64 t, .int .i64 k, .slice (some ad) n c], .int .i64 q, .func (.func 74) #[] #[.pointer (some ⟨b + 1, 0, none⟩), .pointer (some ⟨b, 0, none⟩)], .int .i64 x.1, u39, u40, u41, u42, u43, u44, u45, u46, u47, u48, u49, u50, u51, u52, u53, u54, undef], defers := [] }) ?assign ?body ?done ?stop
      case assign =>
        intro l x V K hK
        gi_wp2
        exact hK
      case body =>
        rintro l pre x V ⟨hF, hMk⟩ hlen
        obtain ⟨p, hp1, hp2, hp3⟩ := x
        have hpN : p < N1 := by omega
        have Hl2 : Hid (((rowE ⟨W, t, k⟩ zs (addL ⟨W, t, k⟩ zs) 0 400000 d).set q (accE (addL ⟨W, t, k⟩ zs) 400000 q (rowE ⟨W, t, k⟩ zs (addL ⟨W, t, k⟩ zs) 0 400000 d) (pre.map (fun (x : EndT ⟨W, t, k⟩ zs q n) => x.1)))).length = N1) := by show _ = _; rw [List.length_set]; exact Hlen.out
        obtain ⟨v0, v1⟩ := hF.va.one
        obtain ⟨f0, f1⟩ := hF.fr.one
        obtain ⟨u0, u1⟩ := hF.fn.one
        obtain ⟨-, hfz, -⟩ := own_store hF.ro Hl2.out hqN
        have hcq := own_cell hF.ro (j := q) (by rw [Hl2.out]; exact hqN)
        have hcp := own_cell hF.ro (j := p) (by rw [Hl2.out]; exact hpN)
        rw [getD_set_eq (by rw [Hlen.out]; exact hqN)] at hcq
        rw [getD_set_ne (by omega)] at hcp
        have HA := Lib.hid (accE_snoc (addL ⟨W, t, k⟩ zs) 400000 q (rowE ⟨W, t, k⟩ zs (addL ⟨W, t, k⟩ zs) 0 400000 d) (pre.map (fun (x : EndT ⟨W, t, k⟩ zs q n) => x.1)) p)
        obtain ⟨acc, hacc⟩ : ∃ acc, accE (addL ⟨W, t, k⟩ zs) 400000 q (rowE ⟨W, t, k⟩ zs (addL ⟨W, t, k⟩ zs) 0 400000 d) (pre.map (fun (x : EndT ⟨W, t, k⟩ zs q n) => x.1)) = acc := ⟨_, rfl⟩
        obtain ⟨y, hy⟩ : ∃ y, (rowE ⟨W, t, k⟩ zs (addL ⟨W, t, k⟩ zs) 0 400000 d).getD p 0 = y := ⟨_, rfl⟩
        rw [hacc] at hcq HA
        rw [hy] at hcp HA
        have HFb := Lib.hid hF; have HMb := Lib.hid hMk
        have hpq : ¬ p = q := by omega
        have Hsx : Hid (Blk V.drew sb #[.int .i64 W, .int .i64 t, .int .i64 k, .slice (some ad) n c] 59) := (show Blk V sb #[.int .i64 W, .int .i64 t, .int .i64 k, .slice (some ad) n c] 59 from HSB.out.below HFb.out.bl HSBl.out)
        have HIV : Hid (Ints V.drew (some ad) zs) := (show Ints V (some ad) zs from (HI.out.keep (Nat.le_refl _) HFb.out.bl).ints)
        have HC := Lib.hid (leastFn_any W t k ad n c sb acc y q p zs V.drew Hn.out Hc.out Hcm.out HIV.out HM.out HT.out Hsx.out hp1 hp2)
        have hgV : g + 2 < V.heap.size := by have h1 := hF.va.lt; omega
        have q1 : (0 : Int) ≤ (q : Int) := by omega
        have q2 : (q : Int) < (N1 : Int) := by omega
        have q3 : (0 : Int) ≤ (p : Int) := by omega
        have q4 : (p : Int) < (N1 : Int) := by omega
        clear hF hMk
        have hmx : Try.prog.follows .mixedOrders = true := by kernel_rfl
        gi_wp2
        refine wpIn_region_planT 15 (.take 0 (.take 1 (.take 2 (.take 3 (.take 4 (.take 5 (.take 6 (.take 7 (.take 8 (.take 9 (.take 10 (.take 11 (.take 12 (.one 13 (.take 14 (.last 15))))))))))))))))
          (fun w' => w'.cell? ⟨vb, 0, none⟩ = some (.slice (some ⟨g + 2, 0, none⟩) N1 N1) ∧ w'.cell? ⟨fb, 0, none⟩ = some (.int .i64 q) ∧ w'.cell? ⟨g + 1, 0, none⟩ = some (.func (.func 77) #[] #[.pointer (some ⟨sb, 0, none⟩)]) ∧ w'.cell? ⟨g + 2, q, none⟩ = some (.int .i64 acc) ∧ w'.cell? ⟨g + 2, p, none⟩ = some (.int .i64 y))
          hmx (by kernel_rfl) (by kernel_rfl) (fun hlo => (by obtain ⟨_, _, hlo⟩ := hlo; exact hlo)) (by kernel_rfl) (fun _ _ _ _ _ h => h) ⟨v0, f0, u0, hcq, hcp⟩ ?_
        iterate 13 (refine planT_quiet rfl (by rfl) (v := ?_) ?_ ?_; rotate_left; (intro w1 hSw; (try dsimp only at hSw); go_simp; try (with_reducible rfl)); (try simp only [Act.put, List.setIfInBounds_toArray, List.set_cons_zero, List.set_cons_succ]))
        refine planT_step rfl (fun K hK => ?_)
        go_wp2_with (go_at_call 77; refine HC.out.mono ?_; rintro e v2 ⟨rfl, hb2⟩; have hb3 : Below V.heap.size V v2 := undrew hb2; have HF2 := Lib.hid (HFb.out.below hb3 (by omega)); have HM2 := Lib.hid (HMb.out.below hb3 HMb.out.lt); have HB3 := Lib.hid hb3; have hgr : v2.heap.size ≥ V.heap.size := hb3.size; clear hb2 hb3)
        refine hK.out _ _ ⟨HF2.out.va.one.1, HF2.out.fr.one.1, HF2.out.fn.one.1, (HB3.out.cell (p := ⟨g + 2, q, none⟩) hgV).trans hcq, (HB3.out.cell (p := ⟨g + 2, p, none⟩) hgV).trans hcp⟩ ?_
        clear hK K
        (refine planT_quiet rfl (by rfl) (v := ?_) ?_ ?_; rotate_left; (intro w1 hSw; (try dsimp only at hSw); go_simp; try (with_reducible rfl)); (try simp only [Act.put, List.setIfInBounds_toArray, List.set_cons_zero, List.set_cons_succ]))
        refine planT_last rfl (fun K hK => ?_)
        obtain ⟨-, hfz2, -⟩ := own_store HF2.out.ro Hl2.out hqN
        have hcq2 : v2.cell? ⟨g + 2, q, none⟩ = some (.int .i64 acc) := (HB3.out.cell (p := ⟨g + 2, q, none⟩) hgV).trans hcq
        go_simp
        refine hK.out _ _ ?_
        clear hK K
        have HF3 := Lib.hid (HF2.out.store Hl2.out zB (by omega) hqN ((addL ⟨W, t, k⟩ zs) acc q p y))
        have HM3 := Lib.hid (HM2.out.set (p := ⟨g + 2, q, none⟩) (.int .i64 ((addL ⟨W, t, k⟩ zs) acc q p y)) (own_block HF2.out.ro))
        have KF : KeepsFrom wg.heap.size V v2 := ⟨HB3.out.size, fun k o hB hk _ => (HB3.out.block k (Array.getElem?_eq_some_iff.1 hk).1).trans hk⟩
        refine ⟨KF.trans (KeepsFrom.of_grownBy (row := some (g + 2)) (grown_cell v2 ⟨g + 2, q, none⟩ _) (fun j hj => (by cases hj; omega))), (KpE.below HB3.out).trans (KpE.store _ (by show g ≤ g + 2; omega) (by show g + 2 < b; omega)), ?_, HM3.out⟩
        rw [List.map_append]
        show FeSt _ _ _ _ _ _ _ _ ((rowE ⟨W, t, k⟩ zs (addL ⟨W, t, k⟩ zs) 0 400000 d).set q (accE (addL ⟨W, t, k⟩ zs) 400000 q (rowE ⟨W, t, k⟩ zs (addL ⟨W, t, k⟩ zs) 0 400000 d) (pre.map (fun (x : EndT ⟨W, t, k⟩ zs q n) => x.1) ++ [p]))) _
        rw [HA.out]
        have h3 := HF3.out
        rw [set_set_same] at h3
        exact h3
      case done =>
        rintro D xs V hD hS ⟨hF, hMk⟩ hK
        have HF2 := Lib.hid hF; have HM2 := Lib.hid hMk; have HK2 := Lib.hid hK
        obtain ⟨f0, f1⟩ := hF.fr.one
        clear hF hMk hK
        dsimp only
        gi_wp2
        have hDs : D ∉ Ds := fun hd2 => by have h2 := MG.out.lt D hd2; omega
        refine ⟨⟨d + 1, V.heap.size, D :: Ds, _, _, _, _, _, _, _, _, _, _, _, _, _, _, _, _, _, _, _, _, _, _, _, _, _, _, _, _, rfl, by omega, ?_, ?_, List.nodup_cons.2 ⟨hDs, HND.out⟩, ?_, HF2.out.va.lt⟩, ?_⟩
        · show FeSt _ _ _ _ _ _ _ _ _ _
          rw [show (n : Int) - 1 - ((d + 1 : Nat) : Int) = (q : Int) - 1 by omega]
          have h1 := HF2.out.turn ((q : Int) - 1) (by have := HF2.out.st.lt; omega)
          rw [hS] at h1
          show FeSt _ _ _ _ _ _ _ _ ((rowE ⟨W, t, k⟩ zs (addL ⟨W, t, k⟩ zs) 0 400000 d).set (zs.length - 1 - d) (accE (addL ⟨W, t, k⟩ zs) 400000 (zs.length - 1 - d) (rowE ⟨W, t, k⟩ zs (addL ⟨W, t, k⟩ zs) 0 400000 d) (endsTo ⟨W, t, k⟩ zs (zs.length - 1 - d) (zs.length + 1)))) _
          rw [Hn.out, hq]
          exact h1
        · intro D' hD'
          rw [List.mem_cons] at hD'
          rcases hD' with rfl | hD'
          · exact (Below.heap_alloc V _ _ (Array.getElem?_eq_some_iff.1 HK2.out).1).trans HK2.out
          · exact (Below.heap_alloc V _ _ (HM2.out.lt D' hD')).trans (HM2.out D' hD')
        · intro D' hD'
          rw [List.mem_cons] at hD'
          rcases hD' with rfl | hD'
          · have := SG.out.st.lt; omega
          · exact HGD.out D' hD'
        · rw [HLE.out, leftE_at rfl (Blk.new V _ _).one.1]
          omega
      case stop =>
        rintro D c' pre V _ _ h _
        exact h.elim
    · obtain rfl : d = n := by omega
      rw [show (d : Int) - 1 - (d : Int) = -1 by omega] at f0
      gi_wp2
      exact leaves_marks g (fun v => Own v g (.slice (some ⟨g + 2, 0, none⟩) N1 N1) (rowE ⟨W, t, k⟩ zs (addL ⟨W, t, k⟩ zs) 0 400000 d) ∧ Below g w v) (fun v D hgD h hD => ⟨own_putObj h.1 hD, below_putObj h.2 hD hgD⟩) (fun v h => ⟨_, results_tmp rfl _ _ _, N1, HN1.out.symm, rfl, h.1, h.2⟩) Ds wr HND.out HGD.out HMk.out ⟨HF.out.ro, HF.out.bl⟩

set_option maxRecDepth 100000 in
set_option maxHeartbeats 3200000 in
theorem least_any (W t k : Int) (ad : Addr) (n c : Nat) (zs : List Int) (w : World) (hn : zs.length = n) (hc : n ≤ c) (hcm : c ≤ maxLen) (h : Ints w (some ad) zs) (hm : msrB ⟨W, t, k⟩ = true) (ht : textB zs = true) :
    Calls Try.prog 60 #[stV W t k ad n c] w fun e w' => ∃ N1 p, N1 = n + 1 ∧ e = .returned (.slice (some ⟨p, 0, none⟩) N1 N1) ∧ w.heap.size ≤ p ∧ Ints w' (some ⟨p, 0, none⟩) (rowE ⟨W, t, k⟩ zs (addL ⟨W, t, k⟩ zs) 0 dearC n) ∧ Below w.heap.size w w' := by
  obtain ⟨w0, hw0, hb0, hz0, P⟩ := stWorld w W t k (.slice (some ad) n c)
  have S0 : Blk w0 w.heap.size #[.int .i64 W, .int .i64 t, .int .i64 k, .slice (some ad) n c] 59 := by rw [← hw0]; exact Blk.new w _ _
  have T0 := Lib.hid hb0; have Z0 := Lib.hid hz0
  have I0 := Lib.hid (h.below hb0)
  have HE := Lib.hid (eachL_any W t k ad n c zs w0 hn hc hcm I0.out hm ht w.heap.size S0)
  obtain ⟨p0, p1, p2, p3⟩ := P
  clear hb0 hz0 hn h hc hcm hm ht S0
  go_enter Try.func60, Try.ntmps60
  go_wp2_with fail
  clear hw0
  refine HE.out.mono ?_
  rintro e w1 ⟨N1, hN1, rfl, hO, hb1⟩
  have HO := Lib.hid hO; have T1 := Lib.hid (T0.out.trans (hb1.mono (B' := w.heap.size) (by have := Z0.out; omega)))
  have HN := Lib.hid hN1
  clear hO hb1 hN1 p0 p1 p2 p3 HE
  go_wp2
  go_ret
  refine ⟨N1, w0.heap.size + 2, HN.out, rfl, by have := Z0.out; omega, ?_, T1.out⟩
  obtain ⟨A, c', hv, hI, -⟩ := Own.form HO.out
  injection hv with hv
  rw [hv]
  exact hI
end Go.Proofs.Ytddkedinkgnboaa
