/-
  WearMatrix of the program by contract. Condition: lengths of at most 2^20.
-/
import Derived.Test.YtobakeahbgodbaaWear
import Derived.Test.YtobakeahbgodbaaCntMag
namespace Go.Proofs.Ytobakeahbgodbaa
open Go.RowKit
set_option linter.unusedVariables false

theorem ownMag_none (w : World) (B hi : Nat) : OwnMag w B hi (.slice none 0 0) [] [] :=
  ⟨World.ownsRow_nil _ _ _ _, fun j xs h => by simp at h, fun i j h h' g e => by simp at e, fun i h g e => by simp at e, fun g h => by cases h⟩

set_option maxRecDepth 100000 in
theorem implWear_any (lo hi lo2 hi2 : Nat) (v : Value) (f : Fnt) (A : Option Addr) (n c : Nat) (ch i t : Int) (ms : List (List Mat)) (w : World) (h : FontV w lo hi v f) (hhi : hi ≤ w.heap.size) (hs : Small f) (hn : ms.length = n) (hm : n ≤ 1048576) (hM : MagI w lo2 hi2 A ms) (hhi2 : hi2 ≤ w.heap.size) (wf : wfM ms) :
    Calls Try.prog 10 #[v, .slice A n c, .int .i64 ch, .int .i64 i, .int .i64 t] w fun e w' => ∃ u hs', e = .returned (.tuple #[u, .bool (wearOk f ms ch i t)]) ∧ OwnMag w' w.heap.size w'.heap.size u hs' (wearL f ms ch i t) ∧ Below w.heap.size w w' := by
  have no : wearOk f ms ch i t = false → Calls Try.prog 10 #[v, .slice A n c, .int .i64 ch, .int .i64 i, .int .i64 t] w (fun e w' => e = .returned (.tuple #[.slice none 0 0, .bool false]) ∧ Below w.heap.size w w') → Calls Try.prog 10 #[v, .slice A n c, .int .i64 ch, .int .i64 i, .int .i64 t] w fun e w' => ∃ u hs', e = .returned (.tuple #[u, .bool (wearOk f ms ch i t)]) ∧ OwnMag w' w.heap.size w'.heap.size u hs' (wearL f ms ch i t) ∧ Below w.heap.size w w' := fun h0 hc => by
    have hL : wearL f ms ch i t = [] := by unfold wearL; rw [h0]; rfl
    rw [h0, hL]
    refine hc.mono ?_
    rintro e w' ⟨rfl, hb⟩
    exact ⟨_, [], rfl, ownMag_none _ _ _, hb⟩
  cases ht : inB t 0 6
  · exact no (by unfold wearOk; rw [ht]; simp) (implWear_no1 lo hi lo2 hi2 v f A n c ch i t ms w h hhi hs hn hm hM hhi2 wf ht)
  obtain ⟨t0, t1⟩ := (inB_iff _ _ _).1 ht
  cases hmag : magB f ms
  · exact no (by unfold wearOk; rw [hmag]; rfl) (implWear_no2 lo hi lo2 hi2 v f A n c ch i t ms w h hhi hs hn hm hM hhi2 wf t0 t1 hmag)
  cases in1 : inB ch 0 ((n : Int) - 1)
  · exact no (by unfold wearOk; rw [hn, in1]; simp) (implWear_no3 lo hi lo2 hi2 v f A n c ch i t ms w h hhi hs hn hm hM hhi2 wf t0 t1 hmag in1)
  obtain ⟨c0, c1⟩ := (inB_iff _ _ _).1 in1
  obtain ⟨m, rfl⟩ := Int.eq_ofNat_of_zero_le c0
  have hmn : m < n := by omega
  obtain ⟨xs, hx⟩ : ∃ xs, ms[m]? = some xs := ⟨_, List.getElem?_eq_getElem (by omega)⟩
  obtain ⟨hf, hlen, hrows⟩ := magB_rows hmag
  have hxl := (hrows xs (List.mem_of_getElem? hx)).1
  have hrow : rowAt ms (m : Int) = xs := by unfold rowAt; rw [Int.toNat_natCast, List.getD, hx]; rfl
  cases in2 : inB i 0 ((xs.length : Int) - 1)
  · exact no (by unfold wearOk; rw [hrow, in2]; simp) (implWear_no4 lo hi lo2 hi2 v f A n c _ i t ms w h hhi hs hn hm hM hhi2 wf t0 t1 hmag m rfl xs hx hmn (by omega) in2)
  obtain ⟨i0, i1⟩ := (inB_iff _ _ _).1 in2
  obtain ⟨k, rfl⟩ := Int.eq_ofNat_of_zero_le i0
  have hkl : k < xs.length := by omega
  obtain ⟨x, hy⟩ : ∃ x, xs[k]? = some x := ⟨_, List.getElem?_eq_getElem hkl⟩
  have hmx := (hrows xs (List.mem_of_getElem? hx)).2 x (List.mem_of_getElem? hy)
  unfold matB at hmx
  rw [Bool.and_eq_true, Bool.and_eq_true] at hmx
  obtain ⟨x0, x1⟩ := (setB_iff _).1 hmx.2.1
  have hgx : xs.getD ((k : Int)).toNat (0, 0) = x := by rw [Int.toNat_natCast, List.getD, hy]; rfl
  cases hb : bt x.2 t.toNat
  · exact no (by unfold wearOk; rw [hrow, hgx, hb]; simp) (implWear_no5 lo hi lo2 hi2 v f A n c _ _ t ms w h hhi hs hn hm hM hhi2 wf t0 t1 hmag m rfl xs hx hmn (by omega) k rfl x hy hb x0 x1)
  have hok : wearOk f ms (m : Int) (k : Int) t = true := by unfold wearOk; rw [hrow, hgx, hmag, hn, in1, ht, in2, hb]; rfl
  have hL : wearL f ms (m : Int) (k : Int) t = ms.set m (xs.set k (x.1, x.2 - one t)) := by unfold wearL; rw [hok, hrow, hgx]; rfl
  rw [hok, hL]
  obtain ⟨ad, hA⟩ : ∃ ad, A = some ad := by obtain ⟨ad, e, _⟩ := hM (by omega); exact ⟨ad, e⟩
  subst hA
  exact implWear_yes lo hi lo2 hi2 v f ad n c m k t ms xs x w h hhi hs hn hm (fun ys hy => by have := (hrows ys hy).1; omega) hM hhi2 wf hmag hx hy t0 t1 hb x0 x1
end Go.Proofs.Ytobakeahbgodbaa
