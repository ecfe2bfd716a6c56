/-
  The text of a line, by contract: the model's l5Text and the program's lineText. Conditions: lengths of at most 2^20.
-/
import Derived.Test.YthoepelgmplcmaaMchI
import Derived.Test.YthoepelgmplcmaaLett
namespace Go.Proofs.Ythoepelgmplcmaa
open Go.RowKit
set_option linter.unusedVariables false

def chrM (f : Fnt) (x : Mat) : Int := if x.1 < 0 then 32 else (byt f.s x.1.toNat : Int)
def txtN (f : Fnt) (xs : List Mat) : List Int := xs.map (chrM f)
def txt (f : Fnt) (xs : List Mat) : ByteArray := strOfNums (txtN f xs)
theorem txtN_len (f : Fnt) (xs : List Mat) : (txtN f xs).length = xs.length := by simp [txtN]
theorem txtN_succ {f : Fnt} {xs : List Mat} {k : Nat} {x : Mat} (h : xs[k]? = some x) : txtN f (xs.take (k + 1)) = txtN f (xs.take k) ++ [chrM f x] := by
  rw [mtake_at h]; simp [txtN]
theorem txt_size (f : Fnt) (xs : List Mat) : (txt f xs).size = xs.length := by unfold txt; rw [strOfNums_size, txtN_len]
theorem nums_letter (l : List Int) {s : ByteArray} {m : Nat} (hm : m < s.size) : strOfNums l ++ s.extract m (m + 1) = strOfNums (l ++ [(byt s m : Int)]) := by
  rw [byt_eq hm]
  apply ByteArray.ext
  rw [ByteArray.data_append, ByteArray.data_extract]
  apply Array.toList_inj.1
  rw [Array.toList_append, strOfNums_data, strOfNums_data, List.map_append]
  congr 1
  apply List.ext_getElem
  · simp; omega
  · intro i h1 h2
    simp at h2
    subst h2
    simp
    rfl
theorem nums_blank (l : List Int) : strOfNums l ++ ⟨#[32]⟩ = strOfNums (l ++ [32]) := by
  apply ByteArray.ext
  rw [ByteArray.data_append]
  apply Array.toList_inj.1
  rw [Array.toList_append, strOfNums_data, strOfNums_data, List.map_append]
  congr 1
/-- every item of the line has a letter -/
def hasLet (f : Fnt) (x : Mat) : Prop := x.1 < 0 ∨ x.1.toNat < f.s.size

set_option maxRecDepth 100000 in
set_option maxHeartbeats 1600000 in
theorem l5Text_any (lo hi lo2 hi2 : Nat) (v : Value) (f : Fnt) (A : Option Addr) (n c : Nat) (xs : List Mat) (w : World) (h : FontV w lo hi v f) (hhi : hi ≤ w.heap.size) (hn : xs.length = n) (hm : n ≤ 1048576) (hM : MatsI w lo2 hi2 A xs) (hhi2 : hi2 ≤ w.heap.size) (hset : ∀ x ∈ xs, hasLet f x) (hss : f.s.size ≤ 1048576) :
    Calls Try.prog 130 #[v, .slice A n c] w fun e w' => e = .returned (.string (txt f xs)) ∧ Below w.heap.size w w' := by
  obtain ⟨B, d, B2, d2, rfl, hI1, hI2, hc1, hc2, hd1, hd2, -⟩ := h
  obtain ⟨p, hp⟩ : ∃ p, f.ws.length = p := ⟨_, rfl⟩
  obtain ⟨q, hq⟩ : ∃ p, f.cs.length = p := ⟨_, rfl⟩
  obtain ⟨s, hs⟩ : ∃ s, f.s = s := ⟨_, rfl⟩
  rw [hs] at hss
  rw [hp, hq, hs]
  have Hs := Lib.hid hs; have Hn := Lib.hid hn; have HSet := Lib.hid hset
  obtain ⟨w0, hw0, hb0, hz0, K0⟩ := mxWorld w #[.string s, .slice B p d, .slice B2 q d2] 25
  have M0 := Lib.hid (hM.below hhi2 hb0); have T0 := Lib.hid hb0; have K0 := Lib.hid K0
  have z0 : w.heap.size < w0.heap.size := by omega
  clear hI1 hI2 hc1 hc2 hd1 hd2 hp hq hs hn hM hset hb0 hz0
  go_enter Try.func130, Try.ntmps130
  go_wp2
  clear hw0
  go_loopw [5, 10] (fun u i wr => ∃ j : Nat, j ≤ n ∧ i = .int .i64 j ∧ u = .string (txt f (xs.take j)) ∧ Below w0.heap.size w0 wr) (fun _ i _ => n - (intOf i).toNat)
  case atStart => exact ⟨0, Nat.zero_le _, rfl, rfl, Below.refl _ _⟩
  case round =>
    obtain ⟨j, hj, rfl, rfl, hb⟩ := hrel
    have HB := Lib.hid hb
    have zr := hb.size
    clear hb
    by_cases hlt : j < n
    · obtain ⟨ad, x, rfl, hx, c1, c2⟩ := (M0.out.below (by omega) HB.out).at_ (k := j) (by rw [Hn.out]; exact hlt)
      have HX := Lib.hid (HSet.out x (List.mem_of_getElem? hx.out))
      have HS := txtN_succ (f := f) hx.out
      have hts : (txt f (xs.take j)).size ≤ 1048576 := by rw [txt_size, List.length_take]; omega
      obtain ⟨wm, hwm⟩ : ∃ y, wr.alloc (.cells #[.int .i64 x.1, .int .i64 x.2] 34) = y := ⟨_, rfl⟩
      have bm : Below wr.heap.size wr wm := by rw [← hwm]; exact (Below.refl _ _).alloc (Nat.le_refl _) _
      have bk : Blk wm wr.heap.size #[.int .i64 x.1, .int .i64 x.2] 34 := by rw [← hwm]; exact Blk.new _ _ _
      have HBm := Lib.hid (HB.out.trans (bm.mono zr)); have zm := bm.size
      obtain ⟨a, b⟩ := x
      simp only at *
      have m0 : wm.cell? ⟨wr.heap.size, 0, none⟩ = some (.int .i64 a) := cellOfBlk bk 0
      have m1 : wm.cell? ⟨wr.heap.size, 1, none⟩ = some (.int .i64 b) := cellOfBlk bk 1
      clear bk
      by_cases hneg : a < 0
      · have g1 : decide (a < 0) = true := decide_eq_true hneg
        have HI : Hid (txt f (xs.take (j + 1)) = txt f (xs.take j) ++ ⟨#[32]⟩) := by
          show _ = _
          unfold txt
          rw [HS, nums_blank]
          unfold chrM; rw [if_pos hneg]
        clear bm HX HS
        go_wp2
        go_roundw
        case rel => exact ⟨j + 1, by omega, by go_num, by rw [HI.out], HBm.out⟩
        case measure => simp [intOf]; omega
      · have g1 : decide (a < 0) = false := decide_eq_false hneg
        obtain ⟨kk, rfl⟩ : ∃ kk : Nat, a = (kk : Int) := ⟨a.toNat, by omega⟩
        have hks : kk < s.size := by
          rcases HX.out with h | h
          · exact absurd h hneg
          · have := Hs.out; simp only [Int.toNat_natCast] at h; rw [this] at h; exact h
        have HI : Hid (txt f (xs.take (j + 1)) = txt f (xs.take j) ++ s.extract kk (kk + 1)) := by
          show _ = _
          unfold txt
          rw [HS, nums_letter _ hks]
          unfold chrM; rw [if_neg hneg, Int.toNat_natCast, Hs.out]
        have Km := Lib.hid (K0.out.below HBm.out (by omega))
        have q1 : wm.cell? ⟨w.heap.size, 0, none⟩ = some (.string s) := cellOfBlk Km.out 0
        clear bm HX HS
        go_wp2
        go_roundw
        case rel => exact ⟨j + 1, by omega, by go_num, by rw [HI.out], HBm.out⟩
        case measure => simp [intOf]; omega
    · have hjn : j = n := by omega
      subst hjn
      have HA : Hid (xs.take j = xs) := mtake_all Hn.out
      go_wp2
      go_ret
      exact ⟨by rw [HA.out]; rfl, T0.out.trans (HB.out.mono (by omega))⟩

section
variable {ops : Array Oper} {rest : List Oper} {o : Oper} {a : Act} {Q : Exit → Act → World → Prop}
/-- make([]byte, n) -/
theorem wpl_make_u8 (w : World) (hg : o.guard = none) (l : Operand) (hop : o.op = Op.makeSlice 22 l l) (n : Nat) (L : Int) (hl : a.eval l = .int .i64 L) (hL : L = (n : Int)) (hn : n ≤ 2097152)
    (hK : ∀ w', w'.ownsRow w.heap.size 5 1 (.slice (some ⟨w.heap.size, 0, none⟩) n n) n (List.replicate n (.int .u8 0)) → Below w.heap.size w w' → wpList Try.prog ops Q rest (a.put o.dst (.slice (some ⟨w.heap.size, 0, none⟩) n n)) w') :
    wpList Try.prog ops Q (o :: rest) a w := by
  obtain ⟨i0, hi, hz0, hz1, hz2⟩ := info_parts u8Info
  refine wpList_make_full w hg l l 22 hop w.heap.size 5 i0 (.int .u8 0) 1 Try.underlying22 hi hz0 hz1 .i64 .i64 L L n hl hl hL hL (by rw [hz2]; omega) (by unfold maxLen; omega) (Nat.le_refl _) ?_
  intro w' h1 h2
  have e : (madeCells (Value.int .u8 0).cells (n * 1)).toList = List.replicate n (.int .u8 0) := by
    apply List.ext_getElem
    · simp [madeCells, Value.cells]
    · intro i h1 h2
      simp [madeCells, Value.cells, Nat.mod_one]
  rw [e] at h1
  exact hK w' h1 ((Below.refl _ _).grown h2 (Nat.le_refl _) (fun k hk => by cases hk))
end
def halfU (zs : List Int) (n k : Nat) : List Value := (zs.take k).map (Value.int .u8) ++ List.replicate (n - k) (.int .u8 0)
theorem halfU_set {zs : List Int} {n k : Nat} {x : Int} (hn : zs.length = n) (hx : zs[k]? = some x) : (halfU zs n k).set k (.int .u8 x) = halfU zs n (k + 1) := by
  have hk := lt_at hx
  unfold halfU
  rw [take_at hx, List.set_append, if_neg (by simp; omega)]
  have : n - k = (n - (k + 1)) + 1 := by omega
  rw [this, List.replicate_succ]
  simp [Nat.min_eq_left (Nat.le_of_lt hk)]
theorem halfU_full {zs : List Int} {n : Nat} (hn : zs.length = n) : halfU zs n n = zs.map (Value.int .u8) := by
  simp [halfU, take_all hn]
theorem halfU_cell (zs : List Int) (n k : Nat) (hn : zs.length = n) (hk : k < n) : ∃ v, (halfU zs n k)[k]? = some v := by
  refine ⟨.int .u8 0, ?_⟩
  unfold halfU
  rw [List.getElem?_append_right (by simp; omega)]
  rw [List.length_map, List.length_take, Nat.min_eq_left (by omega), Nat.sub_self, List.getElem?_replicate, if_pos (by omega)]
set_option maxRecDepth 100000 in
set_option maxHeartbeats 1600000 in
theorem lineText_any (lo hi lo2 hi2 : Nat) (v : Value) (f : Fnt) (A : Option Addr) (n c : Nat) (xs : List Mat) (w : World) (h : FontV w lo hi v f) (hhi : hi ≤ w.heap.size) (hn : xs.length = n) (hm : n ≤ 1048576) (hM : MatsI w lo2 hi2 A xs) (hhi2 : hi2 ≤ w.heap.size) (hset : ∀ x ∈ xs, bandM x = true ∨ (0 ≤ x.1 ∧ x.1.toNat < f.s.size)) :
    Calls Try.prog 131 #[v, .slice A n c] w fun e w' => e = .returned (.string (txt f xs)) ∧ Below w.heap.size w w' := by
  obtain ⟨B, d, B2, d2, rfl, hI1, hI2, hc1, hc2, hd1, hd2, hss⟩ := h
  obtain ⟨p, hp⟩ : ∃ p, f.ws.length = p := ⟨_, rfl⟩
  obtain ⟨q, hq⟩ : ∃ p, f.cs.length = p := ⟨_, rfl⟩
  obtain ⟨s, hs⟩ : ∃ s, f.s = s := ⟨_, rfl⟩
  rw [hp, hq, hs]
  have Hs := Lib.hid hs; have Hn := Lib.hid hn; have HSet := Lib.hid hset
  have HZ : Hid ((txtN f xs).length = n) := by show _ = _; rw [txtN_len, hn]
  obtain ⟨w0, hw0, hb0, hz0, K0⟩ := mxWorld w #[.string s, .slice B p d, .slice B2 q d2] 25
  have M0 := Lib.hid (hM.below hhi2 hb0); have T0 := Lib.hid hb0; have K0 := Lib.hid K0
  have z0 : w.heap.size < w0.heap.size := by omega
  clear hI1 hI2 hc1 hc2 hd1 hd2 hss hp hq hs hn hM hset hb0 hz0
  go_enter Try.func131, Try.ntmps131
  go_wp2_with (at_make; refine wpl_make_u8 w0 rfl (.tmp 9) rfl n _ rfl rfl (by omega) ?_; intro w1 hO1 hb1; have O1 := Lib.hid hO1; have B1 := Lib.hid hb1; clear hO1 hb1 hw0)
  go_loopw [13] (fun i wr => ∃ j : Nat, j ≤ n ∧ i = .int .i64 j ∧ wr.ownsRow w0.heap.size 5 1 (.slice (some ⟨w0.heap.size, 0, none⟩) n n) n (halfU (txtN f xs) n j) ∧ Below w0.heap.size w0 wr) (fun i _ => n - (intOf i).toNat)
  case atStart => exact ⟨0, Nat.zero_le _, rfl, by have := O1.out; rwa [show halfU (txtN f xs) n 0 = List.replicate n (.int .u8 0) by simp [halfU]], B1.out⟩
  case round =>
    obtain ⟨j, hj, rfl, hown, hb⟩ := hrel
    have HO := Lib.hid hown; have HB := Lib.hid hb
    have zr := hb.size
    clear hown hb
    by_cases hlt : j < n
    · obtain ⟨ad, x, rfl, hx, c1, c2⟩ := (M0.out.below (by omega) HB.out).at_ (k := j) (by rw [Hn.out]; exact hlt)
      have HX := Lib.hid (HSet.out x (List.mem_of_getElem? hx.out))
      have HI : Hid ((txtN f xs)[j]? = some (chrM f x)) := by show _ = _; unfold txtN; rw [List.getElem?_map, hx.out]; rfl
      obtain ⟨a, b⟩ := x
      simp only at c1 c2
      obtain ⟨wm, hwm⟩ : ∃ y, wr.alloc (.cells #[.int .i64 a, .int .i64 b] 34) = y := ⟨_, rfl⟩
      have bm : Below wr.heap.size wr wm := by rw [← hwm]; exact (Below.refl _ _).alloc (Nat.le_refl _) _
      have bk : Blk wm wr.heap.size #[.int .i64 a, .int .i64 b] 34 := by rw [← hwm]; exact Blk.new _ _ _
      have m0 : wm.cell? ⟨wr.heap.size, 0, none⟩ = some (.int .i64 a) := cellOfBlk bk 0
      have m1 : wm.cell? ⟨wr.heap.size, 1, none⟩ = some (.int .i64 b) := cellOfBlk bk 1
      have zm : wr.heap.size < wm.heap.size := bk.lt
      have HBm := Lib.hid (HB.out.trans (bm.mono zr)); have HOm := Lib.hid (row_keep HO.out bm); have BK := Lib.hid bk
      clear bm bk
      cases hbd : bandM (a, b)
      · obtain ⟨k0, k1⟩ : 0 ≤ a ∧ a.toNat < f.s.size := by
          rcases HX.out with h | h
          · rw [hbd] at h; cases h
          · exact h
        obtain ⟨kk, rfl⟩ : ∃ kk : Nat, a = (kk : Int) := ⟨a.toNat, by omega⟩
        have hks : kk < s.size := by have := Hs.out; simp only [Int.toNat_natCast] at k1; rw [this] at k1; exact k1
        have Hbd := Lib.hid hbd
        clear hbd k0 k1 HX
        go_wp2_with fail
        refine (isBand_any _ _ _).mono ?_
        rintro e w2 ⟨he, hb2⟩
        rw [Hbd.out] at he
        subst he
        have HB2 := Lib.hid (HBm.out.trans (hb2.mono (by omega)))
        have HO2 := Lib.hid (row_keep HOm.out hb2)
        have bk2 := BK.out.below hb2 zm
        have m0' : w2.cell? ⟨wr.heap.size, 0, none⟩ = some (.int .i64 kk) := cellOfBlk bk2 0
        clear hwm m0 m1 bk2 hb2
        have HIy : Hid ((txtN f xs)[j]? = some (s[kk].toNat : Int)) := by
          show _ = _
          rw [HI.out]
          unfold chrM
          rw [if_neg (by omega), Int.toNat_natCast, Hs.out, byt_eq hks]
        have Km := Lib.hid (K0.out.below HB2.out (by omega))
        have q1 : w2.cell? ⟨w.heap.size, 0, none⟩ = some (.string s) := cellOfBlk Km.out 0
        obtain ⟨v0, hv0⟩ := halfU_cell (txtN f xs) n j HZ.out hlt
        have hdd := (HO2.out.cellAt j (by omega)).trans hv0
        have hff := HO2.out.frozenAt j
        have hst := HO2.out.stored j (.int .u8 (s[kk].toNat : Int))
        rw [halfU_set HZ.out HIy.out] at hst
        have HS := Lib.hid hst.1
        have HB3 := Lib.hid (HB2.out.setCell (p := ⟨w0.heap.size, j, none⟩) (Nat.le_refl _) (.int .u8 (s[kk].toNat : Int)))
        clear hst hv0
        go_wp2
        go_roundw
        case rel => exact ⟨j + 1, by omega, by go_num, HS.out, HB3.out⟩
        case measure => simp [intOf]; omega
      · have Hbd := Lib.hid hbd
        clear hbd HX
        go_wp2_with fail
        refine (isBand_any _ _ _).mono ?_
        rintro e w2 ⟨he, hb2⟩
        rw [Hbd.out] at he
        subst he
        have HB2 := Lib.hid (HBm.out.trans (hb2.mono (by omega)))
        have HO2 := Lib.hid (row_keep HOm.out hb2)
        clear hwm m0 m1 hb2
        have HIy : Hid ((txtN f xs)[j]? = some 32) := by
          show _ = _
          rw [HI.out]
          have h1 := Hbd.out
          unfold bandM at h1
          rw [Bool.and_eq_true, beq_iff_eq] at h1
          unfold chrM
          rw [if_pos (by show a < 0; have := h1.1; omega)]
        obtain ⟨v0, hv0⟩ := halfU_cell (txtN f xs) n j HZ.out hlt
        have hdd := (HO2.out.cellAt j (by omega)).trans hv0
        have hff := HO2.out.frozenAt j
        have hst := HO2.out.stored j (.int .u8 32)
        rw [halfU_set HZ.out HIy.out] at hst
        have HS := Lib.hid hst.1
        have HB3 := Lib.hid (HB2.out.setCell (p := ⟨w0.heap.size, j, none⟩) (Nat.le_refl _) (.int .u8 32))
        clear hst hv0
        go_wp2
        go_roundw
        case rel => exact ⟨j + 1, by omega, by go_num, HS.out, HB3.out⟩
        case measure => simp [intOf]; omega
    · have hjn : j = n := by omega
      subst hjn
      have hown := HO.out
      rw [halfU_full HZ.out] at hown
      have hu : OwnU wr w0.heap.size (.slice (some ⟨w0.heap.size, 0, none⟩) j j) (txtN f xs) := by unfold OwnU; rw [HZ.out]; exact hown
      have hcv := strOf_own hu HZ.out
      clear hown hu
      go_wp2
      go_ret
      exact ⟨rfl, T0.out.trans (HB.out.mono (by omega))⟩
end Go.Proofs.Ythoepelgmplcmaa
