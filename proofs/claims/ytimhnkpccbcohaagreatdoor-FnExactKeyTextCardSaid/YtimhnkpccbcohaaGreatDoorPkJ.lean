/-
  Contracts and plain mathematics (Fill, MchZ), each with its conditions in its own statement.
-/
import Derived.Test.YtimhnkpccbcohaaGreatDoorPkH
import Derived.Test.YtimhnkpccbcohaaGreatDoorPkD
namespace Go.Proofs.YtimhnkpccbcohaaGreatDoor
open Go.RowKit
set_option linter.unusedVariables false

def fillOk (f : Fnt) (e : Int) : Bool := fontB f && inB e 0 20
def fillRow (f : Fnt) (e i : Nat) : List Mat := List.replicate e ((i : Int), f.cs.getD i 0)
def fillTo (f : Fnt) (e n k : Nat) : List (List Mat) := (List.range k).map (fillRow f e) ++ List.replicate (n - k) []
def fillL (f : Fnt) (e : Int) : List (List Mat) := if fillOk f e then fillTo f e.toNat f.cs.length f.cs.length else []
theorem fillTo_len {f : Fnt} {e n k : Nat} (h : k ≤ n) : (fillTo f e n k).length = n := by simp [fillTo]; omega
theorem fillTo_get {f : Fnt} {e n k : Nat} (h : k < n) : (fillTo f e n k)[k]? = some [] := by
  unfold fillTo
  rw [List.getElem?_append_right (by simp), List.length_map, List.length_range, Nat.sub_self, List.getElem?_replicate, if_pos (by omega)]
theorem fillTo_step {f : Fnt} {e n k : Nat} (h : k < n) : (fillTo f e n k).set k (fillRow f e k) = fillTo f e n (k + 1) := by
  unfold fillTo
  rw [List.set_append, if_neg (by simp), List.length_map, List.length_range, Nat.sub_self, List.range_succ, List.map_append, List.append_assoc]
  have : n - k = (n - (k + 1)) + 1 := by omega
  rw [this, List.replicate_succ, List.set_cons_zero]
  rfl
/-- .. and j matrices of row k -/
def fillJ (f : Fnt) (e n k j : Nat) : List (List Mat) := (fillTo f e n k).set k (fillRow f j k)
theorem fillJ_zero {f : Fnt} {e n k : Nat} (h : k < n) : fillJ f e n k 0 = fillTo f e n k := by
  unfold fillJ
  have : fillRow f 0 k = [] := rfl
  rw [this]
  exact List.ext_getElem? fun i => by
    by_cases hi : i = k
    · subst hi; rw [List.getElem?_set_self (by rw [fillTo_len (by omega)]; exact h), fillTo_get h]
    · rw [List.getElem?_set_ne (by omega)]
theorem fillJ_get {f : Fnt} {e n k j : Nat} (h : k < n) : (fillJ f e n k j)[k]? = some (fillRow f j k) := by
  unfold fillJ; rw [List.getElem?_set_self (by rw [fillTo_len (by omega)]; exact h)]
theorem fillJ_set {f : Fnt} {e n k j : Nat} (h : k < n) {x : Int} (hx : Hid (f.cs[k]? = some x)) : (fillJ f e n k j).set k (fillRow f j k ++ [((k : Int), x)]) = fillJ f e n k (j + 1) := by
  unfold fillJ
  rw [List.set_set]
  congr 1
  unfold fillRow
  rw [getD_at hx.out, List.replicate_succ']
theorem fillJ_full {f : Fnt} {e n k : Nat} (h : k < n) : fillJ f e n k e = fillTo f e n (k + 1) := fillTo_step h
theorem fillJ_len {f : Fnt} {e n k j : Nat} (h : k < n) : (fillJ f e n k j).length = n := by unfold fillJ; rw [List.length_set, fillTo_len (by omega)]
theorem fillRow_len {f : Fnt} {j k : Nat} : (fillRow f j k).length = j := by unfold fillRow; rw [List.length_replicate]
theorem ownMag_nil (w : World) (B hi : Nat) : OwnMag w B hi (.slice none 0 0) [] [] :=
  ⟨World.ownsRow_nil _ _ _ _, fun j xs h => by simp at h, fun i j h h' g e => by simp at e, fun i h g e => by simp at e, fun g h => by cases h⟩

end Go.Proofs.YtimhnkpccbcohaaGreatDoor

namespace Go.Proofs.YtimhnkpccbcohaaGreatDoor
open Go.RowKit
set_option linter.unusedVariables false

/-- the machine that is none -/
def zeroX : Mch := ⟨⟨⟨#[]⟩, [], []⟩, [], 0, 0, 0, 0, [], []⟩
theorem zeroX_own (w : World) (B : Nat) : MchX w B B (.agg #[.string ⟨#[]⟩, .slice none 0 0, .slice none 0 0, .slice none 0 0, .int .i64 0, .int .i64 0, .int .i64 0, .int .i64 0, .slice none 0 0, .slice none 0 0]) zeroX := by
  have hF : FontO w B B (.agg #[.string ⟨#[]⟩, .slice none 0 0, .slice none 0 0]) zeroX.f := ⟨none, 0, none, 0, B, rfl, own_none w B, fun k hk => (by cases hk), own_none w B, fun k hk => (by cases hk), Nat.le_refl _, Nat.le_refl _, by unfold maxLen; decide⟩
  exact MchX.build (X := zeroX) hF (ownMag_nil w B B) (show OwnM w B (.slice none 0 0) [] from ⟨rfl, .inl ⟨rfl, rfl⟩⟩) (fun k hk => by cases hk) (show OwnM w B (.slice none 0 0) [] from ⟨rfl, .inl ⟨rfl, rfl⟩⟩) (l1 := B) (t1 := B) (fun k hk => by cases hk) (by unfold Off; omega) (by unfold Off; omega) (by unfold Off; omega) (by unfold Off; omega) (by unfold Off; omega) (by unfold Off; omega) ⟨Nat.le_refl _, Nat.le_refl _⟩ ⟨Nat.le_refl _, Nat.le_refl _⟩ ⟨Nat.le_refl _, Nat.le_refl _⟩ ⟨Nat.le_refl _, Nat.le_refl _⟩
theorem MchX.withMag {w : World} {B hi : Nat} {X : Mch} {s : ByteArray} {A A2 M L T : Option Addr} {n c m d q e l lc r tc : Nat} {sp W t k : Int} {N : Option Addr} {nq ne g0 g1 B' hi' : Nat} {hs : List Value} {ms : List (List Mat)}
    (h : MchX w B hi (.agg #[.string s, .slice A n c, .slice A2 m d, .slice M q e, .int .i64 sp, .int .i64 W, .int .i64 t, .int .i64 k, .slice L l lc, .slice T r tc]) X) (hN : OwnMag w g0 g1 (.slice N nq ne) hs ms) (ho : Off B hi g0 g1) (h1 : B' ≤ B) (h2 : B' ≤ g0) (h3 : hi ≤ hi') (h4 : g1 ≤ hi') :
    MchX w B' hi' (.agg #[.string s, .slice A n c, .slice A2 m d, .slice N nq ne, .int .i64 sp, .int .i64 W, .int .i64 t, .int .i64 k, .slice L l lc, .slice T r tc]) ⟨X.f, ms, X.sp, X.w, X.t, X.k, X.ln, X.wt⟩ := by
  obtain ⟨A', c', A2', d', M', e', L', lc', T', tc', hs', f0, f1, k0, k1, l0, l1, t0, t1, h⟩ := h
  have hv := h.v
  unfold mwords at hv
  simp only [Value.agg.injEq, Array.mk.injEq, List.cons.injEq, Value.string.injEq, Value.slice.injEq, Value.int.injEq, true_and, and_true] at hv
  obtain ⟨rfl, ⟨rfl, rfl, rfl⟩, ⟨rfl, rfl, rfl⟩, -, rfl, rfl, rfl, rfl, ⟨rfl, rfl, rfl⟩, ⟨rfl, rfl, rfl⟩⟩ := hv
  have q1 := h.fi; have q2 := h.gi; have q3 := h.li; have q4 := h.ti
  unfold Off at ho
  have o2 := h.fl; have o3 := h.ft; have o6 := h.lt
  exact MchX.build (X := ⟨X.f, ms, X.sp, X.w, X.t, X.k, X.ln, X.wt⟩) h.font hN h.line h.lineT h.wait h.waitT (by unfold Off; omega) o2 o3 (by unfold Off; omega) (by unfold Off; omega) o6 ⟨by omega, by omega⟩ ⟨by omega, by omega⟩ ⟨by omega, by omega⟩ ⟨by omega, by omega⟩
theorem blk3 {w : World} {B : Nat} {a0 a1 a2 : Value} {T : TypeId} (h : Blk w B #[a0, a1, a2] T) : w.cell? ⟨B, 0, none⟩ = some a0 ∧ w.cell? ⟨B, 1, none⟩ = some a1 ∧ w.cell? ⟨B, 2, none⟩ = some a2 := ⟨cellOfBlk h 0, cellOfBlk h 1, cellOfBlk h 2⟩
theorem mach_big {X : Mch} (h : machB X = true) : X.f.big ≤ 120 ∧ X.ms.length ≤ 40 ∧ (∀ xs ∈ X.ms, xs.length ≤ 20) ∧ X.ln.length ≤ 120 ∧ X.wt.length ≤ 240 := by
  obtain ⟨hm, -, hw, -, hl, -, -⟩ := machB_parts h
  have hf := magB_font hm
  obtain ⟨e1, e2, hbar⟩ := fontB_codes hf
  have hs := fontB_size hf
  unfold magB at hm
  rw [Bool.and_eq_true, Bool.and_eq_true, beq_iff_eq] at hm
  refine ⟨by unfold Fnt.big; omega, by omega, fun xs hx => ?_, hl, hw⟩
  have := List.all_eq_true.1 hm.2.2 xs hx
  unfold rowB at this
  rw [Bool.and_eq_true, decide_eq_true_eq] at this
  exact this.1
theorem tot_lim {ms : List (List Mat)} {b : Nat} (h : ∀ xs ∈ ms, xs.length ≤ b) : tot ms ≤ b * ms.length := by
  induction ms with
  | nil => simp [tot]
  | cons xs ms ih =>
    rw [show tot (xs :: ms) = xs.length + tot ms from by simp [tot], List.length_cons, Nat.mul_succ]
    have h1 := h xs (by simp)
    have h2 := ih (fun ys hy => h ys (by simp [hy]))
    omega
theorem big_lim {f : Fnt} {ms : List (List Mat)} {sp w t k : Int} {ln wt : List Mat} (h1 : f.big ≤ 120) (h2 : ms.length ≤ 40) (h3 : ∀ xs ∈ ms, xs.length ≤ 20) (h4 : ln.length ≤ 120) (h5 : wt.length ≤ 240) : (Mch.mk f ms sp w t k ln wt).big ≤ 1048575 := by
  unfold Mch.big magBig
  simp only
  have := tot_lim h3
  omega
theorem zeroX_big : zeroX.big ≤ 1048575 := by unfold zeroX Mch.big magBig Fnt.big tot; simp; decide
end Go.Proofs.YtimhnkpccbcohaaGreatDoor
