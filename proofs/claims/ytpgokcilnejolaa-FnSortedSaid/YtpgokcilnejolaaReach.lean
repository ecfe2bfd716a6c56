/-
  ReachOf by contract, model and program, and that both look for the same places. Conditions of the contracts: a length of at most 2^20, which is at most the capacity.
-/
import Derived.Test.YtpgokcilnejolaaMem
import Derived.Test.YtpgokcilnejolaaLoss
import Derived.Outline
namespace Go.Proofs.Ytpgokcilnejolaa
open Go.RowKit
set_option linter.unusedVariables false

/-- place i of the model: the common teeth fall there; the end: all teeth do -/
def fitS (zs : List Int) (s : Int) (i : Nat) : Bool := ((fallOf zs (bits .and .i64 s (zs.getD i 0)) : Nat) : Int) == (i : Int)
def reachB (zs : List Int) (s : Int) (i : Nat) : Bool := if i = zs.length then ((fallOf zs s : Nat) : Int) == (zs.length : Int) else fitS zs s i
def reachL (zs : List Int) (s : Int) : List Int := if isBar zs && setB s then pick (reachB zs s) (zs.length + 1) else []
/-- place i of the program: one of the sets below q falls there -/
def hitB (zs : List Int) (s : Int) (q i : Nat) : Bool := (List.range q).any (fun t => partB (t : Int) s && fallOf zs (t : Int) == i)
theorem own_base {w : World} {B B' : Nat} {v : Value} {zs : List Int} (h : Own w B v zs) (hB : B' ≤ B) : Own w B' v zs := by
  refine ⟨h.1, ?_⟩
  rcases h.2 with hn | ⟨g, cap, cur, hv, hg, rest⟩
  · exact .inl hn
  · exact .inr ⟨g, cap, cur, hv, by omega, rest⟩
theorem range_get {m k : Nat} (f : Nat → Value) (h : k < m) : ((List.range m).map f)[k]? = some (f k) := by
  rw [List.getElem?_map, List.getElem?_range h]; rfl
theorem reachL_len (zs : List Int) (s : Int) (h : zs.length + 1 ≤ 1048576) : (reachL zs s).length ≤ 1048576 := by
  unfold reachL
  split
  · exact Nat.le_trans (pick_len _ _) h
  · simp

theorem fallOf_spec {zs : List Int} {t : Int} {i : Nat} (hi : i < zs.length) : fallOf zs t = i ↔ partB t (zs.getD i 0) = true ∧ ∀ j, j < i → partB t (zs.getD j 0) = false := by
  unfold fallOf
  rw [List.findIdx_eq hi]
  simp only [List.getD, List.getElem?_eq_getElem hi, Option.getD_some]
  constructor
  · rintro ⟨h1, h2⟩
    exact ⟨h1, fun j hj => by rw [List.getElem?_eq_getElem (by omega)]; exact h2 j hj⟩
  · rintro ⟨h1, h2⟩
    exact ⟨h1, fun j hj => by have := h2 j hj; rw [List.getElem?_eq_getElem (by omega)] at this; exact this⟩
theorem fallOf_end_iff {zs : List Int} {t : Int} : fallOf zs t = zs.length ↔ ∀ j, j < zs.length → partB t (zs.getD j 0) = false := by
  unfold fallOf
  rw [List.findIdx_eq_length]
  constructor
  · intro h j hj
    simp only [List.getD, List.getElem?_eq_getElem hj, Option.getD_some]
    exact h _ (List.getElem_mem hj)
  · intro h x hx
    obtain ⟨j, hj, rfl⟩ := List.mem_iff_getElem.1 hx
    have := h j hj
    simpa only [List.getD, List.getElem?_eq_getElem hj, Option.getD_some] using this

theorem partB_trans {a b c : Int} (ha0 : 0 ≤ a) (ha : a ≤ 127) (hb0 : 0 ≤ b) (hb : b ≤ 127) (hc0 : 0 ≤ c) (hc : c ≤ 127) (h1 : partB a b = true) (h2 : partB b c = true) : partB a c = true := by
  rw [partB_iff ha0 ha hc0 hc]
  rw [partB_iff ha0 ha hb0 hb] at h1
  rw [partB_iff hb0 hb hc0 hc] at h2
  exact fun i hi => h2 i (h1 i hi)
theorem partB_both {a b : Int} (ha0 : 0 ≤ a) (ha : a ≤ 127) (hb0 : 0 ≤ b) (hb : b ≤ 127) : partB (both a b) a = true ∧ partB (both a b) b = true := by
  obtain ⟨h0, h1⟩ := both_bd ha0 ha hb0 hb
  rw [partB_iff h0 h1 ha0 ha, partB_iff h0 h1 hb0 hb]
  constructor <;> intro i hi <;> rw [bt_both ha0 ha hb0 hb] at hi <;> simp at hi
  · exact hi.1
  · exact hi.2
theorem partB_glb {t a b : Int} (ht0 : 0 ≤ t) (ht : t ≤ 127) (ha0 : 0 ≤ a) (ha : a ≤ 127) (hb0 : 0 ≤ b) (hb : b ≤ 127) (h1 : partB t a = true) (h2 : partB t b = true) : partB t (both a b) = true := by
  obtain ⟨h0, h3⟩ := both_bd ha0 ha hb0 hb
  rw [partB_iff ht0 ht h0 h3]
  rw [partB_iff ht0 ht ha0 ha] at h1
  rw [partB_iff ht0 ht hb0 hb] at h2
  intro i hi
  rw [bt_both ha0 ha hb0 hb, h1 i hi, h2 i hi]; rfl
theorem partB_le {a b : Int} (ha0 : 0 ≤ a) (ha : a ≤ 127) (hb0 : 0 ≤ b) (hb : b ≤ 127) (h : partB a b = true) : a ≤ b := by
  have h' := (partB_iff ha0 ha hb0 hb).1 h
  have : a.toNat ≤ b.toNat := by
    have e : a.toNat = a.toNat &&& b.toNat := by
      apply Nat.eq_of_testBit_eq
      intro i
      rw [Nat.testBit_and]
      cases ht : a.toNat.testBit i
      · rfl
      · have := h' i ht
        unfold bt at this
        rw [this]; rfl
    rw [e]
    exact Nat.and_le_right
  omega

theorem reach_same {zs : List Int} {s : Int} (hbar : isBar zs = true) (hs0 : 0 ≤ s) (hs1 : s ≤ 127) (i : Nat) (hi : i < zs.length + 1) : hitB zs s (s.toNat + 1) i = reachB zs s i := by
  have hset := bar_set hbar
  have hzd : ∀ j, j < zs.length → 0 ≤ zs.getD j 0 ∧ zs.getD j 0 ≤ 127 := fun j hj => by
    simp only [List.getD, List.getElem?_eq_getElem hj, Option.getD_some]
    exact hset _ (List.getElem_mem hj)
  rw [Bool.eq_iff_iff]
  unfold hitB reachB
  rw [List.any_eq_true]
  constructor
  · rintro ⟨t, ht, hp⟩
    rw [List.mem_range] at ht
    rw [Bool.and_eq_true, beq_iff_eq] at hp
    obtain ⟨hp, hf⟩ := hp
    have t1 : (t : Int) ≤ 127 := by omega
    split
    · rename_i he
      rw [he, fallOf_end_iff] at hf
      rw [beq_iff_eq]
      have : fallOf zs s = zs.length := fallOf_end_iff.2 fun j hj => by
        cases hq : partB s (zs.getD j 0)
        · rfl
        · have := partB_trans (by omega) t1 hs0 hs1 (hzd j hj).1 (hzd j hj).2 hp hq
          rw [hf j hj] at this; cases this
      omega
    · rename_i he
      have hi' : i < zs.length := by omega
      rw [fallOf_spec hi'] at hf
      unfold fitS
      rw [beq_iff_eq]
      have hz := hzd i hi'
      have hbd := both_bd hs0 hs1 hz.1 hz.2
      have : fallOf zs (both s (zs.getD i 0)) = i := (fallOf_spec hi').2 ⟨(partB_both hs0 hs1 hz.1 hz.2).2, fun j hj => by
        have hzj := hzd j (by omega)
        cases hq : partB (both s (zs.getD i 0)) (zs.getD j 0)
        · rfl
        · have h1 := partB_glb (by omega) t1 hs0 hs1 hz.1 hz.2 hp hf.1
          have := partB_trans (by omega) t1 hbd.1 hbd.2 hzj.1 hzj.2 h1 hq
          rw [hf.2 j hj] at this; cases this⟩
      unfold both at this
      rw [this]
  · intro h
    split at h
    · rename_i he
      rw [beq_iff_eq] at h
      refine ⟨s.toNat, List.mem_range.2 (by omega), ?_⟩
      rw [Int.toNat_of_nonneg hs0, Bool.and_eq_true, beq_iff_eq]
      exact ⟨(partB_iff hs0 hs1 hs0 hs1).2 fun _ h => h, by omega⟩
    · rename_i he
      have hi' : i < zs.length := by omega
      have hz := hzd i hi'
      have hbd := both_bd hs0 hs1 hz.1 hz.2
      have hpb := partB_both hs0 hs1 hz.1 hz.2
      unfold fitS at h
      rw [beq_iff_eq] at h
      refine ⟨(both s (zs.getD i 0)).toNat, List.mem_range.2 ?_, ?_⟩
      · have := partB_le hbd.1 hbd.2 hs0 hs1 hpb.1
        omega
      · rw [Int.toNat_of_nonneg hbd.1, Bool.and_eq_true, beq_iff_eq]
        refine ⟨hpb.1, ?_⟩
        unfold both
        omega

theorem pick_push {f : Nat → Bool} {w : World} {B : Nat} {v : Value} {k : Nat} (hf : f k = true) (h : Own w B v (pick f k ++ [(k : Int)])) : Own w B v (pick f (k + 1)) := by rw [pick_yes hf]; exact h
theorem pick_stay {f : Nat → Bool} {w : World} {B : Nat} {v : Value} {k : Nat} (hf : f k = false) (h : Own w B v (pick f k)) : Own w B v (pick f (k + 1)) := by rw [pick_no hf]; exact h

set_option maxHeartbeats 800000 in
theorem specReach_yes (A : Option Addr) (n c : Nat) (s : Int) (zs : List Int) (w : World) (hn : zs.length = n) (hm : n ≤ 1048575) (h : Ints w A zs) (hbar : isBar zs = true) (hs : setB s = true) :
    Calls Try.prog 49 #[.slice A n c, .int .i64 s] w fun e w' => ∃ v, e = .returned v ∧ Own w' w.heap.size v (pick (reachB zs s) (n + 1)) ∧ Below w.heap.size w w' := by
  have Hn := Lib.hid hn; clear hn
  have hm0 : n ≤ maxLen := by unfold maxLen; omega
  go_enter Try.func49, Try.ntmps49
  go_wp2_with (first
    | (go_at_call 20; refine (specIsBar_any _ _ _ zs _ Hn.out hm0 h).mono ?_; rintro e w' ⟨rfl, rfl⟩)
    | (go_at_call 51; refine (l1Set_any _ _).mono ?_; rintro e w' ⟨rfl, rfl⟩))
  go_loopw [5, 19] (fun v i wr => ∃ k : Nat, k ≤ n ∧ i = .int .i64 k ∧ Own wr w.heap.size v (pick (fitS zs s) k) ∧ Below w.heap.size w wr) (fun _ i _ => n - (intOf i).toNat)
  case atStart => exact ⟨0, Nat.zero_le _, rfl, World.ownsRow_lit w #[] 0 (Nat.le_refl _) (Nat.zero_le _) rfl, (Below.refl _ _).alloc (Nat.le_refl _) _⟩
  case round =>
    obtain ⟨k, hk, rfl, hown, hb⟩ := hrel
    have hsz := hb.size
    have hkl := pick_len (fitS zs s) k
    have hI := h.below hb
    by_cases hlt : k < n
    · obtain ⟨ad, x, rfl, hx, hc⟩ := hI.at_ (k := k) (by rw [Hn.out]; exact hlt)
      have hfit : fitS zs s k = (((fallOf zs (bits .and .i64 s x) : Nat) : Int) == (k : Int)) := by unfold fitS; rw [getD_at hx.out]
      cases hf : (((fallOf zs (bits .and .i64 s x) : Nat) : Int) == (k : Int))
      · have HF : Hid (fitS zs s k = false) := hfit.trans hf
        have HO := Lib.hid hown
        clear hfit hown
        go_wp2_with (go_at_call 74; refine (l1Fall_any _ _ _ zs _ _ Hn.out hm0 hI).mono ?_; rintro e w' ⟨rfl, rfl⟩)
        go_roundw
        case rel => exact ⟨k + 1, by omega, by go_num, pick_stay HF.out HO.out, hb⟩
        case measure => simp [intOf]; omega
      · have HF : Hid (fitS zs s k = true) := hfit.trans hf
        clear hfit
        go_wp2_with (first
          | (go_at_call 74; refine (l1Fall_any _ _ _ zs _ _ Hn.out hm0 hI).mono ?_; rintro e w' ⟨rfl, rfl⟩)
          | (at_builtin; refine wpl_push _ rfl (.tmp 31) (.tmp 33) rfl w.heap.size _ (pick (fitS zs s) k) (k : Int) rfl rfl hown hsz (by omega) ?_; intro v' w1 hown1 hb1))
        have HO := Lib.hid (pick_push HF.out hown1)
        have HB := Lib.hid (hb.trans hb1)
        clear hown1 hb1 hown
        go_wp2
        go_roundw
        case rel => exact ⟨k + 1, by omega, by go_num, HO.out, HB.out⟩
        case measure => simp [intOf]; omega
    · have hkn : k = n := by omega
      subst hkn
      have hcg : pick (fitS zs s) k = pick (reachB zs s) k := pick_congr fun i hi => by unfold reachB; rw [if_neg (by rw [Hn.out]; omega)]
      rw [hcg] at hown hkl
      clear hcg
      have hlast : reachB zs s k = (((fallOf zs s : Nat) : Int) == (k : Int)) := by unfold reachB; rw [if_pos Hn.out.symm, Hn.out]
      cases hf : (((fallOf zs s : Nat) : Int) == (k : Int))
      · have HF : Hid (reachB zs s k = false) := hlast.trans hf
        have HO := Lib.hid hown
        clear hlast hown
        go_wp2_with (go_at_call 74; refine (l1Fall_any _ _ _ zs _ _ Hn.out hm0 hI).mono ?_; rintro e w' ⟨rfl, rfl⟩)
        go_ret
        exact ⟨_, rfl, pick_stay HF.out HO.out, hb⟩
      · have HF : Hid (reachB zs s k = true) := hlast.trans hf
        clear hlast
        go_wp2_with (first
          | (go_at_call 74; refine (l1Fall_any _ _ _ zs _ _ Hn.out hm0 hI).mono ?_; rintro e w' ⟨rfl, rfl⟩)
          | (at_builtin; refine wpl_push _ rfl (.tmp 42) (.tmp 45) rfl w.heap.size _ (pick (reachB zs s) k) (k : Int) rfl rfl hown hsz (by omega) ?_; intro v' w1 hown1 hb1))
        go_ret
        exact ⟨_, rfl, pick_push HF.out hown1, hb.trans hb1⟩

theorem hit_step_no {zs : List Int} {s : Int} {q n : Nat} (h : partB (q : Int) s = false) : (List.range (n + 1)).map (fun i => Value.bool (hitB zs s (q + 1) i)) = (List.range (n + 1)).map (fun i => Value.bool (hitB zs s q i)) := by
  apply List.map_congr_left
  intro i _
  unfold hitB
  rw [List.range_succ, List.any_append]
  simp [h]
theorem hit_step_yes {zs : List Int} {s : Int} {q n : Nat} (hn : zs.length = n) (h : partB (q : Int) s = true) :
    ((List.range (n + 1)).map (fun i => Value.bool (hitB zs s q i))).set (fallOf zs (q : Int)) (.bool true) = (List.range (n + 1)).map (fun i => Value.bool (hitB zs s (q + 1) i)) := by
  apply List.ext_getElem
  · simp
  · intro i h1 h2
    have hi : i < n + 1 := by simpa using h2
    rw [List.getElem_set]
    simp only [List.getElem_map, List.getElem_range]
    unfold hitB
    rw [List.range_succ, List.any_append]
    split
    · rename_i he
      simp [h, he]
    · rename_i he
      have : (fallOf zs (q : Int) == i) = false := by simpa using he
      simp [this]
theorem hit_zero (zs : List Int) (s : Int) (n : Nat) : List.replicate (n + 1) (Value.bool false) = (List.range (n + 1)).map (fun i => Value.bool (hitB zs s 0 i)) := by
  apply List.ext_getElem
  · simp
  · intro i h1 h2; simp [hitB]

set_option maxHeartbeats 1600000 in
theorem implReach_yes (A : Option Addr) (n c : Nat) (s : Int) (zs : List Int) (w : World) (hn : zs.length = n) (hm : n ≤ 1048575) (h : Ints w A zs) (hbar : isBar zs = true) (hs : setB s = true) :
    Calls Try.prog 36 #[.slice A n c, .int .i64 s] w fun e w' => ∃ v, e = .returned v ∧ Own w' w.heap.size v (pick (reachB zs s) (n + 1)) ∧ Below w.heap.size w w' := by
  obtain ⟨hs0, hs1⟩ := (setB_iff s).1 hs
  have HS := Lib.hid (fun i hi => reach_same hbar hs0 hs1 i hi)
  have Hn := Lib.hid hn; clear hn
  have hm0 : n ≤ maxLen := by unfold maxLen; omega
  go_enter Try.func36, Try.ntmps36
  go_wp2_with (first
    | (go_at_call 21; refine (implIsBar_any _ _ _ zs _ Hn.out hm0 h).mono ?_; rintro e w' ⟨rfl, rfl⟩)
    | (go_at_call 55; refine (isSet_any _ _).mono ?_; rintro e w' ⟨rfl, rfl⟩)
    | (at_make; refine wpl_make_bool _ rfl (.tmp 20) rfl (n + 1) _ rfl (by omega) (by omega) ?_; intro w1 hown1 hb1 hlt1; rw [hit_zero zs s n] at hown1))
  have HO1 := Lib.hid hown1
  clear hown1
  go_loopw [6] (fun q wr => ∃ t : Nat, (t : Int) ≤ s + 1 ∧ q = .int .i64 t ∧ wr.ownsRow w.heap.size 4 1 (.slice (some ⟨w.heap.size, 0, none⟩) (n + 1) (n + 1)) (n + 1) ((List.range (n + 1)).map (fun i => Value.bool (hitB zs s t i))) ∧ Below w.heap.size w wr) (fun q _ => (s + 1 - intOf q).toNat)
  case atStart => exact ⟨0, by omega, rfl, HO1.out, hb1⟩
  case round =>
    clear HO1 hb1 hlt1
    obtain ⟨t, ht, rfl, hown, hb⟩ := hrel
    have hI := h.below hb
    by_cases hle : (t : Int) ≤ s
    · cases hp : partB (t : Int) s
      · have HO : Hid (wr.ownsRow w.heap.size 4 1 (.slice (some ⟨w.heap.size, 0, none⟩) (n + 1) (n + 1)) (n + 1) ((List.range (n + 1)).map (fun i => Value.bool (hitB zs s (t + 1) i)))) := by rw [hit_step_no hp]; exact hown
        clear hown
        go_wp2_with (go_at_call 71; refine (isPartOf_any _ _ _).mono ?_; rintro e w' ⟨rfl, rfl⟩)
        go_roundw
        case rel => exact ⟨t + 1, by omega, by go_num, HO.out, hb⟩
        case measure => simp [intOf]; omega
      · have hfl := fallOf_le zs (t : Int)
        rw [Hn.out] at hfl
        obtain ⟨f, hf⟩ : ∃ f, fallOf zs (t : Int) = f := ⟨_, rfl⟩
        have hst := hown.stored f (.bool true)
        have hstep := hit_step_yes Hn.out hp
        rw [hf] at hstep hfl
        rw [hstep] at hst
        have hd : wr.cell? ⟨w.heap.size, f, none⟩ = some (.bool (hitB zs s t f)) := (hown.cellAt f (by omega)).trans (range_get _ (by omega))
        have hfz := hown.frozenAt f
        have HO := Lib.hid hst.1
        have HB := Lib.hid (hb.setCell (p := ⟨w.heap.size, f, none⟩) (Nat.le_refl _) (.bool true))
        have HF := Lib.hid hf
        clear hst hstep hown hf
        go_wp2_with (first
          | (go_at_call 71; refine (isPartOf_any _ _ _).mono ?_; rintro e w' ⟨rfl, rfl⟩)
          | (go_at_call 60; refine (fall_any _ _ _ zs _ _ Hn.out hm0 hI).mono ?_; rintro e w' ⟨rfl, rfl⟩; rw [HF.out]))
        go_roundw
        case rel => exact ⟨t + 1, by omega, by go_num, HO.out, HB.out⟩
        case measure => simp [intOf]; omega
    · have hts : t = s.toNat + 1 := by omega
      subst hts
      have hrow : (List.range (n + 1)).map (fun i => Value.bool (hitB zs s (s.toNat + 1) i)) = (List.range (n + 1)).map (fun i => Value.bool (reachB zs s i)) :=
        List.map_congr_left fun i hi => by rw [HS.out i (by rw [Hn.out]; exact List.mem_range.1 hi)]
      rw [hrow] at hown
      clear hrow HS
      have hlt : w.heap.size < wr.heap.size := (World.ownsRow.lt hown w.heap.size rfl).2
      go_wp2
      obtain ⟨wo, rfl⟩ : ∃ wo : World, wo = wr := ⟨_, rfl⟩
      go_loopw [7, 37] (fun v i wr => ∃ k : Nat, k ≤ n + 1 ∧ i = .int .i64 k ∧ Own wr wo.heap.size v (pick (reachB zs s) k) ∧ Below wo.heap.size wo wr) (fun _ i _ => n + 1 - (intOf i).toNat)
      case atStart => exact ⟨0, by omega, rfl, World.ownsRow_nil _ _ _ _, Below.refl _ _⟩
      case round =>
        obtain ⟨k, hk, rfl, hO, hB⟩ := hrel
        have hrow' := row_below hown (b := wo.heap.size) (fun g hg => by injection hg with hg; subst hg; exact hlt) hB
        have hsz := hB.size
        have hkl := pick_len (reachB zs s) k
        by_cases hkn : k < n + 1
        · have hd : wr.cell? ⟨w.heap.size, k, none⟩ = some (.bool (reachB zs s k)) := (hrow'.cellAt k (by omega)).trans (range_get _ (by omega))
          clear hrow'
          cases hf : reachB zs s k
          · rw [hf] at hd
            have HF := Lib.hid hf
            have HO := Lib.hid hO
            clear hf hO
            go_wp2
            go_roundw
            case rel => exact ⟨k + 1, by omega, by go_num, pick_stay HF.out HO.out, hB⟩
            case measure => simp [intOf]; omega
          · rw [hf] at hd
            have HF := Lib.hid hf
            clear hf
            go_wp2_with (at_builtin; refine wpl_push _ rfl (.tmp 43) (.tmp 45) rfl wo.heap.size _ (pick (reachB zs s) k) (k : Int) rfl rfl hO hsz (by omega) ?_; intro v' w2 hO2 hB2)
            have HO := Lib.hid (pick_push HF.out hO2)
            have HB := Lib.hid (hB.trans hB2)
            clear hO2 hB2 hO
            go_wp2
            go_roundw
            case rel => exact ⟨k + 1, by omega, by go_num, HO.out, HB.out⟩
            case measure => simp [intOf]; omega
        · have hk2 : k = n + 1 := by omega
          subst hk2
          go_wp2
          go_ret
          exact ⟨_, rfl, own_base hO (by have := hb.size; omega), hb.trans (hB.mono hb.size)⟩

theorem specReach_no (A : Option Addr) (n c : Nat) (s : Int) (zs : List Int) (w : World) (hn : zs.length = n) (hm0 : n ≤ maxLen) (h : Ints w A zs) (hno : (isBar zs && setB s) = false) :
    Calls Try.prog 49 #[.slice A n c, .int .i64 s] w fun e w' => e = .returned (.slice none 0 0) ∧ w = w' := by
  have Hn := Lib.hid hn; clear hn
  cases hb : isBar zs
  · clear hno
    go_enter Try.func49, Try.ntmps49
    go_wp2_with (go_at_call 20; refine (specIsBar_any _ _ _ zs _ Hn.out hm0 h).mono ?_; rintro e w' ⟨rfl, rfl⟩)
    go_ret
    exact ⟨rfl, rfl⟩
  · have hs : setB s = false := by rw [hb] at hno; simpa using hno
    clear hno
    go_enter Try.func49, Try.ntmps49
    go_wp2_with (first
      | (go_at_call 20; refine (specIsBar_any _ _ _ zs _ Hn.out hm0 h).mono ?_; rintro e w' ⟨rfl, rfl⟩)
      | (go_at_call 51; refine (l1Set_any _ _).mono ?_; rintro e w' ⟨rfl, rfl⟩))
    go_ret
    exact ⟨rfl, rfl⟩
theorem specReach_any (A : Option Addr) (n c : Nat) (zs : List Int) (s : Int) (w : World) (hn : zs.length = n) (hm : n ≤ 1048576) (hcap : n ≤ c) (hcm : c ≤ maxLen) (h : Ints w A zs) :
    Calls Try.prog 49 #[.slice A n c, .int .i64 s] w fun e w' => ∃ v, e = .returned v ∧ Own w' w.heap.size v (reachL zs s) ∧ Below w.heap.size w w' := by
  cases hy : (isBar zs && setB s)
  · have hL : reachL zs s = [] := by unfold reachL; rw [hy]; rfl
    rw [hL]
    refine (specReach_no A n c s zs w hn (by unfold maxLen; omega) h hy).mono ?_
    rintro e w' ⟨rfl, rfl⟩
    exact ⟨_, rfl, World.ownsRow_nil _ _ _ _, Below.refl _ _⟩
  · have hL : reachL zs s = pick (reachB zs s) (n + 1) := by unfold reachL; rw [hy, hn]; rfl
    rw [hL]
    rw [Bool.and_eq_true] at hy
    exact specReach_yes A n c s zs w hn (by have := bar_len hy.1; omega) h hy.1 hy.2

theorem implReach_no (A : Option Addr) (n c : Nat) (s : Int) (zs : List Int) (w : World) (hn : zs.length = n) (hm0 : n ≤ maxLen) (h : Ints w A zs) (hno : (isBar zs && setB s) = false) :
    Calls Try.prog 36 #[.slice A n c, .int .i64 s] w fun e w' => e = .returned (.slice none 0 0) ∧ w = w' := by
  have Hn := Lib.hid hn; clear hn
  cases hb : isBar zs
  · clear hno
    go_enter Try.func36, Try.ntmps36
    go_wp2_with (go_at_call 21; refine (implIsBar_any _ _ _ zs _ Hn.out hm0 h).mono ?_; rintro e w' ⟨rfl, rfl⟩)
    go_ret
    exact ⟨rfl, rfl⟩
  · have hs : setB s = false := by rw [hb] at hno; simpa using hno
    clear hno
    go_enter Try.func36, Try.ntmps36
    go_wp2_with (first
      | (go_at_call 21; refine (implIsBar_any _ _ _ zs _ Hn.out hm0 h).mono ?_; rintro e w' ⟨rfl, rfl⟩)
      | (go_at_call 55; refine (isSet_any _ _).mono ?_; rintro e w' ⟨rfl, rfl⟩))
    go_ret
    exact ⟨rfl, rfl⟩
theorem implReach_any (A : Option Addr) (n c : Nat) (zs : List Int) (s : Int) (w : World) (hn : zs.length = n) (hm : n ≤ 1048576) (hcap : n ≤ c) (hcm : c ≤ maxLen) (h : Ints w A zs) :
    Calls Try.prog 36 #[.slice A n c, .int .i64 s] w fun e w' => ∃ v, e = .returned v ∧ Own w' w.heap.size v (reachL zs s) ∧ Below w.heap.size w w' := by
  cases hy : (isBar zs && setB s)
  · have hL : reachL zs s = [] := by unfold reachL; rw [hy]; rfl
    rw [hL]
    refine (implReach_no A n c s zs w hn (by unfold maxLen; omega) h hy).mono ?_
    rintro e w' ⟨rfl, rfl⟩
    exact ⟨_, rfl, World.ownsRow_nil _ _ _ _, Below.refl _ _⟩
  · have hL : reachL zs s = pick (reachB zs s) (n + 1) := by unfold reachL; rw [hy, hn]; rfl
    rw [hL]
    rw [Bool.and_eq_true] at hy
    exact implReach_yes A n c s zs w hn (by have := bar_len hy.1; omega) h hy.1 hy.2

theorem reachL_small (zs : List Int) (s : Int) : (reachL zs s).length ≤ 41 := by
  unfold reachL
  split
  · rename_i h
    rw [Bool.and_eq_true] at h
    have := bar_len h.1
    have := pick_len (reachB zs s) (zs.length + 1)
    omega
  · simp
end Go.Proofs.Ytpgokcilnejolaa
