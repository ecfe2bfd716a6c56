/-
  The program's counts, counterOf and count by contract. Conditions: the measure is one, the words are a text.
-/
import Derived.Test.YtddkedinkgnboaaMap
namespace Go.Proofs.Ytddkedinkgnboaa
open Go.RowKit Go.Shelf
set_option linter.unusedVariables false

set_option maxRecDepth 100000 in
set_option maxHeartbeats 3200000 in
theorem counts_any (W t k : Int) (ad : Addr) (n c : Nat) (zs : List Int) (w : World) (hn : zs.length = n) (hc : n ≤ c) (hcm : c ≤ maxLen) (h : Ints w (some ad) zs) (hm : msrB ⟨W, t, k⟩ = true) (ht : textB zs = true) :
    Calls Try.prog 71 #[stV W t k ad n c] w fun e w' => ∃ N1 p, N1 = n + 1 ∧ e = .returned (.slice (some ⟨p, 0, none⟩) N1 N1) ∧ w.heap.size ≤ p ∧ Ints w' (some ⟨p, 0, none⟩) (rowE ⟨W, t, k⟩ zs addC 1 0 n) ∧ Below w.heap.size w w' := by
  obtain ⟨w0, hw0, hb0, hz0, P⟩ := stWorld w W t k (.slice (some ad) n c)
  have T0 := Lib.hid hb0; have Z0 := Lib.hid hz0
  have I0 := Lib.hid (h.below hb0)
  have HE := Lib.hid (fun (w : World) (h : Ints w (some ad) zs) => eachC_any W t k ad n c zs w hn hc hcm h hm ht)
  obtain ⟨p0, p1, p2, p3⟩ := P
  clear hb0 hz0 hn h hc hcm hm ht
  go_enter Try.func71, Try.ntmps71
  go_wp2_with fail
  clear hw0
  refine (HE.out _ I0.out).mono ?_
  rintro e w1 ⟨N1, hN1, rfl, hO, hb1⟩
  have HO := Lib.hid hO; have T1 := Lib.hid (T0.out.trans (hb1.mono (B' := w.heap.size) (by have := Z0.out; omega)))
  have HN := Lib.hid hN1
  clear hO hb1 hN1 p0 p1 p2 p3
  go_wp2
  go_ret
  refine ⟨N1, w0.heap.size + 2, HN.out, rfl, by have := Z0.out; omega, ?_, T1.out⟩
  obtain ⟨A, c', hv, hI, -⟩ := Own.form HO.out
  injection hv with hv
  rw [hv]
  exact hI

/-- what the counter remembers: a map whose keys are measures, each with the numbers of breakings of the words from each one on -/
def CMapG (w : World) (r : Nat) (zs : List Int) (G : Nat → Prop) : Prop := ¬ G r ∧ ∃ es clock, w.heap[r]? = some (.map es clock) ∧ ∀ e ∈ es.toList, ∃ W t k p, e.key = keyV W t k ∧ (∃ l, keyOf Try.prog 24 (keyV W t k) = some l) ∧
  e.val = .slice (some ⟨p, 0, none⟩) (zs.length + 1) (zs.length + 1) ∧ ¬ G p ∧ Ints w (some ⟨p, 0, none⟩) (rowE ⟨W, t, k⟩ zs addC 1 0 zs.length)
theorem CMapG.lt {w : World} {r : Nat} {zs : List Int} {G : Nat → Prop} (h : CMapG w r zs G) : r < w.heap.size := by
  obtain ⟨-, es, clock, hb, -⟩ := h
  exact (Array.getElem?_eq_some_iff.1 hb).1
theorem CMapG.below {w w' : World} {r : Nat} {zs : List Int} {G : Nat → Prop} (h : CMapG w r zs G) (hb : Below w.heap.size w w') : CMapG w' r zs G := by
  have hr := h.lt
  obtain ⟨hG, es, clock, h1, h2⟩ := h
  refine ⟨hG, es, clock, (hb.block r hr).trans h1, fun e he => ?_⟩
  obtain ⟨W, t, k, p, a, b, c, g, d⟩ := h2 e he
  exact ⟨W, t, k, p, a, b, c, g, d.below hb⟩
theorem CMapG.start (w : World) (zs : List Int) {G : Nat → Prop} (hG : ¬ G w.heap.size) : CMapG (w.alloc (.map #[] 0)) w.heap.size zs G := ⟨hG, #[], 0, heap_alloc_new w _, fun e he => by cases he⟩
theorem ints_block {w w' : World} {p : Nat} {l : List Int} (h : Ints w (some ⟨p, 0, none⟩) l) (hb : w'.heap[p]? = w.heap[p]?) : Ints w' (some ⟨p, 0, none⟩) l := fun hn => by
  obtain ⟨a, e, hc⟩ := h hn
  injection e with e
  subst e
  exact ⟨_, rfl, fun j hj => (World.cell?_of_block (by rw [block_add]; exact hb)).trans (hc j hj)⟩
/-- whatever happens in the blocks of G, and in new ones -/
theorem CMapG.ext {w w' : World} {r : Nat} {zs : List Int} {G : Nat → Prop} (h : CMapG w r zs G) (hk : ∀ k, k < w.heap.size → ¬ G k → w'.heap[k]? = w.heap[k]?) : CMapG w' r zs G := by
  have hr := h.lt
  obtain ⟨hG, es, clock, h1, h2⟩ := h
  refine ⟨hG, es, clock, (hk r hr hG).trans h1, fun e he => ?_⟩
  obtain ⟨W, t, k, p, a, b, c, g, d⟩ := h2 e he
  have hp : p < w.heap.size := by
    obtain ⟨a', e', hc⟩ := d (by rw [rowE_len]; omega)
    injection e' with e'
    subst e'
    have := World.block_lt_of_cell? _ _ (hc 0 (by rw [rowE_len]; omega))
    rwa [block_add] at this
  exact ⟨W, t, k, p, a, b, c, g, ints_block d (hk p hp g)⟩
/-- a new block may join G -/
theorem CMapG.join {w : World} {r : Nat} {zs : List Int} {G G' : Nat → Prop} (h : CMapG w r zs G) (hG : ∀ k, G' k → G k ∨ w.heap.size ≤ k) : CMapG w r zs G' := by
  have hr := h.lt
  obtain ⟨hg, es, clock, h1, h2⟩ := h
  refine ⟨fun h => (hG r h).elim hg (fun h => by omega), es, clock, h1, fun e he => ?_⟩
  obtain ⟨W, t, k, p, a, b, c, g, d⟩ := h2 e he
  have hp : p < w.heap.size := by
    obtain ⟨a', e', hc⟩ := d (by rw [rowE_len]; omega)
    injection e' with e'
    subst e'
    have := World.block_lt_of_cell? _ _ (hc 0 (by rw [rowE_len]; omega))
    rwa [block_add] at this
  exact ⟨W, t, k, p, a, b, c, fun h => (hG p h).elim g (fun h => by omega), d⟩
theorem cell_putMap {w : World} {r : Nat} {es es' : Array MapEntry} {cl cl' : Nat} (hb : w.heap[r]? = some (.map es cl)) (p : Addr) : (w.putObj r (.map es' cl')).cell? p = w.cell? p := by
  have hlt : r < w.heap.size := (Array.getElem?_eq_some_iff.1 hb).1
  by_cases hp : p.block = r
  · unfold World.cell?
    rw [hp]
    rw [show (w.putObj r (.map es' cl')).heap[r]? = some (.map es' cl') from by simp [World.putObj, hlt], hb]
  · exact World.cell?_of_block (by simp [World.putObj, Ne.symm hp])
theorem grown_putMap (w : World) (r : Nat) (o : Obj) : w.grownBy (w.putObj r o) (some r) := ⟨rfl, rfl, rfl, by simp [World.putObj], fun k _ hk => by
  have : k ≠ r := fun e => hk (by rw [e])
  simp [World.putObj, Ne.symm this]⟩
theorem below_by {w w' : World} (h : Below w.heap.size w w') (row : Option Nat) : w.grownBy w' row := ⟨h.os, h.tape, h.output, h.size, fun k hk _ => h.block k hk⟩
theorem by_trans {a b c : World} {row : Option Nat} (h : a.grownBy b row) (k : b.grownBy c row) : a.grownBy c row :=
  ⟨k.os.trans h.os, k.tape.trans h.tape, k.output.trans h.output, Nat.le_trans h.size k.size, fun j hj hne => (k.block j (Nat.lt_of_lt_of_le hj h.size) hne).trans (h.block j hj hne)⟩
theorem CMapG.put {w : World} {r : Nat} {zs : List Int} {G : Nat → Prop} {es : Array MapEntry} {clock : Nat} {W t k : Int} {p : Nat} (hb : w.heap[r]? = some (.map es clock)) (h : CMapG w r zs G) (hp : ¬ G p) (hk : ∃ l, keyOf Try.prog 24 (keyV W t k) = some l)
    (hI : Ints w (some ⟨p, 0, none⟩) (rowE ⟨W, t, k⟩ zs addC 1 0 zs.length)) :
    CMapG (w.putObj r (.map (es.push ⟨keyV W t k, .slice (some ⟨p, 0, none⟩) (zs.length + 1) (zs.length + 1), clock⟩) (clock + 1))) r zs G := by
  obtain ⟨hG, es2, cl2, h1, h2⟩ := h
  rw [hb] at h1; cases h1
  have hlt : r < w.heap.size := (Array.getElem?_eq_some_iff.1 hb).1
  refine ⟨hG, _, _, by simp [World.putObj, hlt]; exact ⟨rfl, rfl⟩, fun e he => ?_⟩
  have hc : ∀ (q : Nat) (l : List Int), Ints w (some ⟨q, 0, none⟩) l → Ints (w.putObj r (.map (es.push ⟨keyV W t k, .slice (some ⟨p, 0, none⟩) (zs.length + 1) (zs.length + 1), clock⟩) (clock + 1))) (some ⟨q, 0, none⟩) l :=
    fun q l hq => hq.keep (fun a _ => cell_putMap hb a)
  rw [Array.toList_push, List.mem_append, List.mem_singleton] at he
  rcases he with he | rfl
  · obtain ⟨W', t', k', p', a, b, c, g, d⟩ := h2 e he
    exact ⟨W', t', k', p', a, b, c, g, hc _ _ d⟩
  · exact ⟨W, t, k, p, rfl, hk, rfl, hp, hc _ _ hI⟩
theorem CMapG.keys {w : World} {r : Nat} {zs : List Int} {G : Nat → Prop} {es : Array MapEntry} {clock : Nat} (hb : w.heap[r]? = some (.map es clock)) (h : CMapG w r zs G) : MKeys es := by
  obtain ⟨-, es2, cl2, h1, h2⟩ := h
  rw [hb] at h1; cases h1
  intro e he
  obtain ⟨W', t', k', p', a, b, -⟩ := h2 e he
  rw [a]; exact b
/-- looking up a measure -/
theorem CMapG.look {w : World} {r : Nat} {zs : List Int} {G : Nat → Prop} {W t k : Int} (h : CMapG w r zs G) (hk : ∃ l, keyOf Try.prog 24 (keyV W t k) = some l) :
    ((Instr.lookup 61 (.map (some r)) (keyV W t k) true).run Try.prog w = .ok (.tuple #[.slice none 0 0, .bool false]) w ∧
      ∀ w', Below w.heap.size w w' → ∀ p N1, ¬ G p → N1 = zs.length + 1 → Ints w' (some ⟨p, 0, none⟩) (rowE ⟨W, t, k⟩ zs addC 1 0 zs.length) → ∃ o, (Instr.mapUpdate 61 (.map (some r)) (keyV W t k) (.slice (some ⟨p, 0, none⟩) N1 N1)).run Try.prog w' = .ok () (w'.putObj r o) ∧ CMapG (w'.putObj r o) r zs G ∧ ∀ a, (w'.putObj r o).cell? a = w'.cell? a) ∨
    ∃ p N1, N1 = zs.length + 1 ∧ Ints w (some ⟨p, 0, none⟩) (rowE ⟨W, t, k⟩ zs addC 1 0 zs.length) ∧ (Instr.lookup 61 (.map (some r)) (keyV W t k) true).run Try.prog w = .ok (.tuple #[.slice (some ⟨p, 0, none⟩) N1 N1, .bool true]) w := by
  have h0 := h
  have hlt := h.lt
  obtain ⟨-, es, clock, h1, h2⟩ := h
  obtain ⟨kl, hkl⟩ := hk
  rcases map_look h1 hkl (h0.keys h1) with ⟨a, b⟩ | ⟨e, he, hek, a⟩
  · refine .inl ⟨a, fun w' hb p N1 hp hN hI => ?_⟩
    subst hN
    have h3 : w'.heap[r]? = some (.map es clock) := (hb.block r hlt).trans h1
    exact ⟨_, map_put _ h3 hkl (h0.keys h1) b, CMapG.put h3 (h0.below hb) hp ⟨kl, hkl⟩ hI, fun a => cell_putMap h3 a⟩
  · obtain ⟨W', t', k', p', c, d, f, -, g⟩ := h2 e he
    rw [hek] at c
    unfold keyV at c
    have e3 : W = W' ∧ t = t' ∧ k = k' := by simpa using c
    obtain ⟨rfl, rfl, rfl⟩ := e3
    rw [f] at a
    exact .inr ⟨p', _, rfl, g, a⟩

theorem cntWorld (w : World) (s m : Value) (W t k : Int) : ∃ w0, (w.alloc (.cells #[s, m] 63)).alloc (.cells #[.int .i64 W, .int .i64 t, .int .i64 k] 24) = w0 ∧ Below w.heap.size w w0 ∧ w0.heap.size = w.heap.size + 2 ∧
    Blk w0 w.heap.size #[s, m] 63 ∧ Blk w0 (w.heap.size + 1) #[.int .i64 W, .int .i64 t, .int .i64 k] 24 := by
  refine ⟨_, rfl, (below_new _ _).trans ((below_new _ _).mono (by simp)), by simp, (Blk.new w _ _).below (below_new _ _) (by simp), ?_⟩
  have := Blk.new (w.alloc (.cells #[s, m] 63)) #[.int .i64 W, .int .i64 t, .int .i64 k] 24
  rwa [World.size_alloc] at this
theorem Blk.two {w : World} {B : Nat} {x y : Value} {T : TypeId} (h : Blk w B #[x, y] T) : w.cell? ⟨B, 0, none⟩ = some x ∧ w.cell? ⟨B, 1, none⟩ = some y := by
  unfold Blk at h
  constructor <;> simp [World.cell?, h]
theorem Blk.three {w : World} {B : Nat} {x y z : Value} {T : TypeId} (h : Blk w B #[x, y, z] T) : w.cell? ⟨B, 0, none⟩ = some x ∧ w.cell? ⟨B, 1, none⟩ = some y ∧ w.cell? ⟨B, 2, none⟩ = some z := by
  unfold Blk at h
  refine ⟨?_, ?_, ?_⟩ <;> simp [World.cell?, h]

theorem ints_cell {w : World} {p i : Nat} {l : List Int} (h : Ints w (some ⟨p, 0, none⟩) l) (hi : i < l.length) : w.cell? ⟨p, i, none⟩ = some (.int .i64 (l.getD i 0)) := by
  obtain ⟨a, e, hc⟩ := h (by omega)
  injection e with e
  subst e
  have := hc i hi
  rwa [add_zero_at] at this

set_option maxRecDepth 100000 in
set_option maxHeartbeats 3200000 in
theorem cmCountG_any (G : Nat → Prop) (W t k : Int) (ad : Addr) (n c r i : Nat) (zs : List Int) (w : World) (hGw : ∀ j, G j → j < w.heap.size) (hn : zs.length = n) (hc : n ≤ c) (hcm : c ≤ maxLen) (h : Ints w (some ad) zs) (hm : msrB ⟨W, t, k⟩ = true) (ht : textB zs = true) (hr : CMapG w r zs G) (hi : i ≤ n) :
    Calls Try.prog 48 #[.agg #[.slice (some ad) n c, .map (some r)], .agg #[.int .i64 W, .int .i64 t, .int .i64 k], .int .i64 i] w fun e w' => e = .returned (.int .i64 ((rowE ⟨W, t, k⟩ zs addC 1 0 n).getD i 0)) ∧ w.grownBy w' (some r) ∧ CMapG w' r zs G := by
  have HGw := Lib.hid hGw
  clear hGw
  have hk : ∃ l, keyOf Try.prog 24 (keyV W t k) = some l := by
    have h1 := msrB_iff.1 hm
    simp only at h1
    exact msKey_ok (WalkArith.wf_i64 (by omega)) (WalkArith.wf_i64 (by omega)) (WalkArith.wf_i64 (by omega))
  have hlen : (rowE ⟨W, t, k⟩ zs addC 1 0 n).length = n + 1 := by rw [rowE_len, hn]
  obtain ⟨w0, hw0, hb0, hz0, B1, B2⟩ := cntWorld w (.slice (some ad) n c) (.map (some r)) W t k
  have T0 := Lib.hid hb0; have Z0 := Lib.hid hz0
  have I0 := Lib.hid (h.below hb0)
  have R0 := hr.below hb0
  have hrl := hr.lt
  have HL := R0.look hk
  obtain ⟨p0, p1⟩ := B1.two
  obtain ⟨q0, q1, q2⟩ := B2.three
  have HR := Lib.hid R0; have Hn := Lib.hid hn
  obtain ⟨x, hx⟩ : ∃ x, (rowE ⟨W, t, k⟩ zs addC 1 0 n).getD i 0 = x := ⟨_, rfl⟩
  have Hx := Lib.hid hx
  have hi0 : (0 : Int) ≤ (i : Int) := by omega
  rw [hx]
  rcases HL with ⟨hl, hput⟩ | ⟨p, N1, hN, hI, hl⟩
  · have HP := Lib.hid hput
    have HC := Lib.hid (fun (w : World) (h : Ints w (some ad) zs) => counts_any W t k ad n c zs w hn hc hcm h hm ht)
    have B2h := Lib.hid B2; have B1h := Lib.hid B1
    clear hput hr h R0 hm ht hk hc hcm B1 B2 hlen hx hn hb0
    have hlh := Lib.hid hl
    unfold keyV at hl HP
    go_enter Try.func48, Try.ntmps48
    go_wp2_with fail
    clear hw0
    refine (HC.out _ I0.out).mono ?_
    rintro e w1 ⟨N1, p, hN1, rfl, hp, hI, hb1⟩
    obtain ⟨o, hrun, hCM, hcell⟩ := HP.out w1 hb1 p N1 (fun h => by have := HGw.out p h; have := Z0.out; omega) (by rw [hN1, Hn.out]) (by rw [Hn.out]; exact hI)
    have hc1 := ints_cell (i := i) hI (by rw [rowE_len, Hn.out]; omega)
    rw [Hx.out, ← hcell] at hc1
    have P1 := Lib.hid (hb1.cell (p := ⟨w.heap.size, 0, none⟩) (by have := Z0.out; show w.heap.size < _; omega))
    have B1 := B1h.out.below hb1 (by have := Z0.out; omega)
    have B2 := B2h.out.below hb1 (by have := Z0.out; omega)
    have hiN : (i : Int) < (N1 : Int) := by omega
    have G1 := Lib.hid (by_trans (below_by (T0.out.trans (hb1.mono (B' := w.heap.size) (by have := Z0.out; omega))) (some r)) (grown_putMap w1 r o))
    have HCM := Lib.hid hCM
    obtain ⟨p0, p1⟩ := B1.two
    obtain ⟨q0, q1, q2⟩ := B2.three
    clear hI hp hb1 hN1 B1 B2 hCM hcell HP HC P1
    go_wp2
    go_ret
    exact ⟨rfl, G1.out, HCM.out⟩
  · have hc1 := ints_cell (i := i) hI (by rw [rowE_len]; omega)
    rw [hn, hx] at hc1
    have hiN : (i : Int) < (N1 : Int) := by omega
    clear hI hN hr h R0 hm ht hk hc hcm B1 B2 hlen hx hn hb0
    unfold keyV at hl
    go_enter Try.func48, Try.ntmps48
    go_wp2_with fail
    clear hw0
    go_wp2
    go_ret
    exact ⟨rfl, below_by T0.out _, HR.out⟩
/-- no set asked -/
def CMap (w : World) (r : Nat) (zs : List Int) : Prop := CMapG w r zs (fun _ => False)
theorem CMap.lt {w : World} {r : Nat} {zs : List Int} (h : CMap w r zs) : r < w.heap.size := CMapG.lt h
theorem CMap.below {w w' : World} {r : Nat} {zs : List Int} (h : CMap w r zs) (hb : Below w.heap.size w w') : CMap w' r zs := CMapG.below h hb
theorem CMap.start (w : World) (zs : List Int) : CMap (w.alloc (.map #[] 0)) w.heap.size zs := CMapG.start w zs (fun h => h)
theorem cmCount_any (W t k : Int) (ad : Addr) (n c r i : Nat) (zs : List Int) (w : World) (hn : zs.length = n) (hc : n ≤ c) (hcm : c ≤ maxLen) (h : Ints w (some ad) zs) (hm : msrB ⟨W, t, k⟩ = true) (ht : textB zs = true) (hr : CMap w r zs) (hi : i ≤ n) :
    Calls Try.prog 48 #[.agg #[.slice (some ad) n c, .map (some r)], .agg #[.int .i64 W, .int .i64 t, .int .i64 k], .int .i64 i] w fun e w' => e = .returned (.int .i64 ((rowE ⟨W, t, k⟩ zs addC 1 0 n).getD i 0)) ∧ w.grownBy w' (some r) ∧ CMap w' r zs :=
  cmCountG_any (fun _ => False) W t k ad n c r i zs w (fun _ h => h.elim) hn hc hcm h hm ht hr hi
end Go.Proofs.Ytddkedinkgnboaa
