/-
 Contracts and plain mathematics (EngI, Is, EngK, EngA, CastI, KeyM, CntMag), each with its conditions in its own statement.
-/
import Derived.Test.YtimhnkpccbcohaaGreatDoorZEngCG
import Derived.Test.YtimhnkpccbcohaaGreatDoorZPkL
import Derived.Test.YtimhnkpccbcohaaGreatDoorZPkA
import Derived.LaidEql
import Derived.Stop.Asserts
import Derived.RowKitTokens
import Derived.Test.YtimhnkpccbcohaaGreatDoorZPkK
import Derived.Test.YtimhnkpccbcohaaGreatDoorZPkD
namespace Go.Proofs.YtimhnkpccbcohaaGreatDoor
open Go.RowKit Go.Conc
set_option linter.unusedVariables false
set_option linter.unusedSimpArgs false

def readyE (X : Mch) (e1 e2 : Value) : Value := if X.ln.length = 0 then e1 else if fullB ⟨X.w, X.t, X.k⟩ (itemsM X.f X.ln) then .nilIface else e2
end Go.Proofs.YtimhnkpccbcohaaGreatDoor

namespace Go.Proofs.YtimhnkpccbcohaaGreatDoor
open Go.RowKit Go.Extern.Stop Go.Stop Go.Extern
set_option linter.unusedVariables false
set_option linter.unusedSimpArgs false

theorem isTypeOf (v : Value) (w : World) : (Extern.ReflectliteType.typeOf #[.iface 192 v]).run Tryz.prog w = .ok (.iface 166 (.agg #[.pointer (some ⟨9, 192, none⟩)])) w := by kernel_rfl
theorem isComparable (w : World) : ((Extern.ReflectliteType.method fun t => do Rtype.noPackHeld "Comparable" t; pure (.bool (← typeInfo t).comparable)) #[.agg #[.pointer (some ⟨9, 192, none⟩)]]).run Tryz.prog w = .ok (.bool true) w := by kernel_rfl
theorem isCompCall (w : World) : (callFunc 172 #[.agg #[.pointer (some ⟨9, 192, none⟩)]]).run Tryz.prog w = .ok (.value (.bool true)) w := by
 have h32 := @run_callFunc_extern Tryz.prog 172 _ (Extern.ReflectliteType.method fun t => do Rtype.noPackHeld "Comparable" t; pure (.bool (← typeInfo t).comparable)) Tryz.func172 (by kernel_rfl) (by kernel_rfl) (by kernel_rfl) (by kernel_rfl)
 rw [h32, isComparable]
 rfl
theorem isMethodComparable (v : Value) (w : World) : (Go.method 326 166 v "Comparable").run Tryz.prog w = .ok (172, v) w := by kernel_rfl
theorem isComp : (Tryz.prog.info? 192).map (·.comparable) = some true := by kernel_rfl
theorem isSize : (Tryz.prog.info? 215).map (·.size) = some 1 := by kernel_rfl
theorem noIsE (v : Value) (xT : TypeId) (w : World) : (Instr.typeAssert (.iface 192 v) xT 184 true).run Tryz.prog w = .ok (.tuple #[.nilIface, .bool false]) w := run_typeAssert_lacksB Tryz.underlying184 (by kernel_rfl) (by kernel_rfl) v xT w
theorem noUnwrapE (v : Value) (xT : TypeId) (w : World) : (Instr.typeAssert (.iface 192 v) xT 173 true).run Tryz.prog w = .ok (.tuple #[.nilIface, .bool false]) w := run_typeAssert_lacksB Tryz.underlying173 (by kernel_rfl) (by kernel_rfl) v xT w
theorem noUnwrapsE (v : Value) (xT : TypeId) (w : World) : (Instr.typeAssert (.iface 192 v) xT 174 true).run Tryz.prog w = .ok (.tuple #[.nilIface, .bool false]) w := run_typeAssert_lacksB Tryz.underlying174 (by kernel_rfl) (by kernel_rfl) v xT w
theorem noIsC (v : Value) (xT : TypeId) (w : World) : (Instr.typeAssert (.iface 183 v) xT 184 true).run Tryz.prog w = .ok (.tuple #[.nilIface, .bool false]) w := run_typeAssert_lacksB Tryz.underlying184 (by kernel_rfl) (by kernel_rfl) v xT w
theorem hasUnwrapC (v : Value) (xT : TypeId) (w : World) : (Instr.typeAssert (.iface 183 v) xT 173 true).run Tryz.prog w = .ok (.tuple #[.iface 183 v, .bool true]) w := run_typeAssert_hasB Tryz.underlying173 (by kernel_rfl) v xT w
theorem methodUnwrapC (v : Value) (w : World) : (Go.method 326 183 v "Unwrap").run Tryz.prog w = .ok (182, v) w := by kernel_rfl

theorem is_same (a : Addr) (w : World) :
  Calls Tryz.prog 85 #[.iface 192 (.pointer (some a)), .iface 192 (.pointer (some a))] w fun e w' => e = .returned (.bool true) ∧ w' = w := by
 obtain ⟨i, hi, hcmp⟩ := Option.map_eq_some_iff.1 isComp
 obtain ⟨j, hj, hjs⟩ := Option.map_eq_some_iff.1 isSize
 have h8 := @run_callFunc_extern Tryz.prog 119 _ Extern.ReflectliteType.typeOf Tryz.func119 (by kernel_rfl) (by kernel_rfl) (by kernel_rfl) (by kernel_rfl)
 have h32 := isCompCall
 have tT := isTypeOf
 have mR := isMethodComparable
 have heq := run_eql_iface_ptr_same (P := Tryz.prog) w a Tryz.underlying87 Tryz.underlying192 hi hcmp hj
 go_enter Tryz.func85, Tryz.ntmps85
 go_wp2
 refine wp_loop_rounds 1 ?_
 rw [rounds_succ]
 go_wp2
 go_ret
 exact ⟨rfl, rfl⟩
theorem is_nil (b : Addr) (w : World) :
  Calls Tryz.prog 85 #[.nilIface, .iface 192 (.pointer (some b))] w fun e w' => e = .returned (.bool false) ∧ w' = w := by
 have hn := run_eql_iface_nil_left (P := Tryz.prog) w 192 (.pointer (some b)) Tryz.underlying87
 go_enter Tryz.func85, Tryz.ntmps85
 go_wp2
 go_ret
 exact ⟨rfl, rfl⟩
theorem is_other (a b : Addr) (ca cb : Array Value) (ta tb : TypeId) (w : World) (hne : a ≠ b) (ha : w.heap[a.block]? = some (.cells ca ta (0, 0))) (hb : w.heap[b.block]? = some (.cells cb tb (0, 0))) :
  Calls Tryz.prog 85 #[.iface 192 (.pointer (some a)), .iface 192 (.pointer (some b))] w fun e w' => e = .returned (.bool false) ∧ w' = w := by
 obtain ⟨i, hi, hcmp⟩ := Option.map_eq_some_iff.1 isComp
 obtain ⟨j, hj, hjs⟩ := Option.map_eq_some_iff.1 isSize
 have h8 := @run_callFunc_extern Tryz.prog 119 _ Extern.ReflectliteType.typeOf Tryz.func119 (by kernel_rfl) (by kernel_rfl) (by kernel_rfl) (by kernel_rfl)
 have h32 := isCompCall
 have tT := isTypeOf
 have mR := isMethodComparable
 have nE := noIsE
 have uE := noUnwrapE
 have vE := noUnwrapsE
 have heq := run_eql_iface_ptr_other (P := Tryz.prog) w Tryz.underlying87 Tryz.underlying192 hi hcmp hj (by rw [hjs]; decide) hne ha hb
 go_enter Tryz.func85, Tryz.ntmps85
 go_wp2
 refine wp_loop_rounds 1 ?_
 rw [rounds_succ]
 go_wp2
 go_ret
 exact ⟨rfl, rfl⟩
theorem is_chan (ch : Int) (b : Addr) (w : World) :
  Calls Tryz.prog 85 #[.iface 183 (.agg #[.int .i64 ch, .iface 192 (.pointer (some b))]), .iface 192 (.pointer (some b))] w fun e w' => e = .returned (.bool true) ∧ Below w.heap.size w w' := by
 obtain ⟨i, hi, hcmp⟩ := Option.map_eq_some_iff.1 isComp
 obtain ⟨j, hj, hjs⟩ := Option.map_eq_some_iff.1 isSize
 have h8 := @run_callFunc_extern Tryz.prog 119 _ Extern.ReflectliteType.typeOf Tryz.func119 (by kernel_rfl) (by kernel_rfl) (by kernel_rfl) (by kernel_rfl)
 have h32 := isCompCall
 have tT := isTypeOf
 have mR := isMethodComparable
 have nC := noIsC
 have uC := hasUnwrapC
 have mU := methodUnwrapC
 have heq := fun w => run_eql_iface_ptr_same (P := Tryz.prog) w b Tryz.underlying87 Tryz.underlying192 hi hcmp hj
 have hty := run_eql_iface_types (P := Tryz.prog) 183 192 (.agg #[.int .i64 ch, .iface 192 (.pointer (some b))]) (.pointer (some b)) Tryz.underlying87 (by decide) w
 go_enter Tryz.func85, Tryz.ntmps85
 go_wp2
 refine wp_loop_rounds 2 ?_
 rw [rounds_succ]
 go_wp2
 rw [rounds_succ]
 go_wp2
 go_ret
 exact ⟨rfl, (Below.refl _ _).alloc (Nat.le_refl _) _⟩
end Go.Proofs.YtimhnkpccbcohaaGreatDoor

namespace Go.Proofs.YtimhnkpccbcohaaGreatDoor
open Go.RowKit Go.Conc
set_option linter.unusedVariables false
set_option linter.unusedSimpArgs false

/-- whether a line may be cast -/
def castGo (X : Mch) (rag : Bool) : Bool := !(X.ln.length == 0) && (rag || fullB ⟨X.w, X.t, X.k⟩ (itemsM X.f X.ln))
end Go.Proofs.YtimhnkpccbcohaaGreatDoor

namespace Go.Proofs.YtimhnkpccbcohaaGreatDoor
open Go.RowKit Go.Conc
set_option linter.unusedVariables false
set_option linter.unusedSimpArgs false

end Go.Proofs.YtimhnkpccbcohaaGreatDoor

namespace Go.Proofs.YtimhnkpccbcohaaGreatDoor
open Go.RowKit Go.Conc
set_option linter.unusedVariables false
set_option linter.unusedSimpArgs false

/-- what a machine that is one tells -/
theorem mach_facts {X : Mch} (h : machB X = true) : (∀ i, i < X.f.s.size → letOk X.f.s i = true) ∧ (∀ x ∈ X.ln, bandM x = true ∨ (0 ≤ x.1 ∧ x.1.toNat < X.f.ws.length)) ∧ (∀ x ∈ X.ln, bandM x = true ∨ (0 ≤ x.1 ∧ x.1.toNat < X.f.s.size)) ∧ 0 ≤ X.sp ∧ X.sp ≤ 60 := by
 obtain ⟨hm, hsp, -, -, -, hset, -⟩ := machB_parts h
 have hf := magB_font hm
 obtain ⟨e1, e2, -⟩ := fontB_codes hf
 obtain ⟨s0, s1⟩ := (inB_iff _ _ _).1 hsp
 have key : ∀ x ∈ X.ln, bandM x = true ∨ (0 ≤ x.1 ∧ x.1.toNat < X.f.s.size) := fun x hx => by
  have h1 := List.all_eq_true.1 hset x hx
  unfold setM at h1
  rw [Bool.or_eq_true] at h1
  rcases h1 with h1 | h1
  ·exact .inl h1
  ·unfold matB at h1
   rw [Bool.and_eq_true] at h1
   obtain ⟨k0, k1⟩ := (inB_iff _ _ _).1 h1.1
   exact .inr ⟨k0, by omega⟩
 refine ⟨letters_all (fontB_letters hf), fun x hx => ?_, key, s0, s1⟩
 rcases key x hx with h1 | ⟨h1, h2⟩
 ·exact .inl h1
 ·exact .inr ⟨h1, by omega⟩
theorem magB_20 {f : Fnt} {ms : List (List Mat)} (h : magB f ms = true) : ∀ xs ∈ ms, xs.length ≤ 20 := by
 unfold magB at h
 simp only [Bool.and_eq_true, beq_iff_eq, List.all_eq_true] at h
 intro xs hx
 have := h.2.2 xs hx
 unfold rowB at this
 simp only [Bool.and_eq_true, decide_eq_true_eq, List.all_eq_true] at this
 exact this.1
def castOk (X : Mch) (rag : Bool) : Bool := machB X && (castGo X rag && clearOk X)
def castX (X : Mch) (rag : Bool) : Mch := if castOk X rag then clearX X else zeroX
def castT (X : Mch) (rag : Bool) : ByteArray := if castOk X rag then txt X.f X.ln else ⟨#[]⟩
def castP (X : Mch) (rag : Bool) : List Int := if castOk X rag then placesL ⟨X.w, X.t, X.k⟩ (itemsM X.f X.ln) else []
theorem cast_off {X : Mch} {rag : Bool} (h : castOk X rag = false) : castX X rag = zeroX ∧ castT X rag = ⟨#[]⟩ ∧ castP X rag = [] := by
 unfold castX castT castP; rw [h]; exact ⟨rfl, rfl, rfl⟩
theorem cast_on {X : Mch} {rag : Bool} (h : castOk X rag = true) : castX X rag = clearX X ∧ castT X rag = txt X.f X.ln ∧ castP X rag = placesL ⟨X.w, X.t, X.k⟩ (itemsM X.f X.ln) := by
 unfold castX castT castP; rw [h]; exact ⟨rfl, rfl, rfl⟩
end Go.Proofs.YtimhnkpccbcohaaGreatDoor

namespace Go.Proofs.YtimhnkpccbcohaaGreatDoor
open Go.RowKit Go.Conc Go.Maps
set_option linter.unusedVariables false
set_option linter.unusedSimpArgs false

/-- the row that a rune is taken from -/
def keyRow (X : Mch) (r : Int) : List Mat := if keyTo X.f.s r X.f.s.size < 0 then [] else X.ms.getD (keyTo X.f.s r X.f.s.size).toNat []
def keyYes (X : Mch) (r : Int) : Bool := if r = 32 then decide (X.sp ≠ 0) && addOk X (-1, 0) else match keyRow X r with
 | [] => false
 | x :: _ => addOk X x
theorem keyX_no {X : Mch} {r : Int} {e : Errs} (h : keyYes X r = false) : keyX X r = X ∧ ∃ t u, keyE X r e = .iface t u := by
 unfold keyYes at h
 unfold keyX keyE
 by_cases hr : r = 32
 ·rw [if_pos hr] at h
  rw [if_pos hr, if_pos hr]
  unfold bandX bandE addE
  by_cases hs : X.sp = 0
  ·rw [if_pos hs, if_pos hs]; exact ⟨rfl, _, _, rfl⟩
  ·rw [if_neg hs, if_neg hs]
   have ha : addOk X (-1, 0) = false := by simpa [hs] using h
   rw [ha]; exact ⟨rfl, _, _, rfl⟩
 ·rw [if_neg hr] at h
  rw [if_neg hr, if_neg hr]
  unfold keyRow at h
  by_cases hk : keyTo X.f.s r X.f.s.size < 0
  ·rw [if_pos hk, if_pos hk]; exact ⟨rfl, _, _, rfl⟩
  ·rw [if_neg hk] at h
   rw [if_neg hk, if_neg hk]
   unfold keyMX keyME
   cases hrow : X.ms.getD (keyTo X.f.s r X.f.s.size).toNat [] with
   | nil => exact ⟨rfl, _, _, rfl⟩
   | cons x xs =>
    rw [hrow] at h
    simp only at h
    simp only [h, Bool.false_eq_true, if_false]
    exact ⟨trivial, _, _, rfl⟩
theorem keyE_yes {X : Mch} {r : Int} {e : Errs} (h : keyYes X r = true) : keyE X r e = .nilIface := by
 unfold keyYes at h
 unfold keyE
 by_cases hr : r = 32
 ·rw [if_pos hr] at h
  rw [if_pos hr]
  rw [Bool.and_eq_true, decide_eq_true_eq] at h
  unfold bandE addE
  rw [if_neg h.1, h.2]; rfl
 ·rw [if_neg hr] at h
  rw [if_neg hr]
  unfold keyRow at h
  by_cases hk : keyTo X.f.s r X.f.s.size < 0
  ·rw [if_pos hk] at h; cases h
  ·rw [if_neg hk] at h
   rw [if_neg hk]
   unfold keyME
   cases hrow : X.ms.getD (keyTo X.f.s r X.f.s.size).toNat [] with
   | nil => rw [hrow] at h; cases h
   | cons x xs =>
    rw [hrow] at h
    simp only at h
    simp only [h, if_true]
theorem items_len (f : Fnt) (xs : List Mat) : (itemsM f xs).length = xs.length := by unfold itemsM; rw [List.length_map]
theorem addOk_len {X : Mch} {x : Mat} (h : addOk X x = true) : (X.ln ++ [x]).length ≤ 120 := by
 have h1 := (goodB_parts h).2.1
 have h2 := (lineB_parts h1).2
 rw [items_len] at h2
 exact h2
theorem magB_tail {f : Fnt} {ms : List (List Mat)} {i : Nat} {x : Mat} {xs : List Mat} (h : magB f ms = true) (hr : ms.getD i [] = x :: xs) : magB f (ms.set i xs) = true ∧ matB f x = true := by
 have hlt : i < ms.length := by
  rcases Nat.lt_or_ge i ms.length with h9 | h9
  ·exact h9
  ·rw [List.getD, List.getElem?_eq_none h9] at hr; simp at hr
 have hi : ms[i]? = some (x :: xs) := by rw [List.getD, List.getElem?_eq_getElem hlt] at hr; rw [List.getElem?_eq_getElem hlt]; simpa using hr
 have hm := List.mem_of_getElem? hi
 unfold magB at h ⊢
 simp only [Bool.and_eq_true, beq_iff_eq, List.all_eq_true] at h ⊢
 have h9 := h.2.2 _ hm
 unfold rowB at h9
 simp only [Bool.and_eq_true, decide_eq_true_eq, List.all_eq_true, List.length_cons] at h9
 refine ⟨⟨h.1, by rw [List.length_set]; exact h.2.1, fun ys hy => ?_⟩, h9.2 x (by simp)⟩
 rcases List.mem_or_eq_of_mem_set hy with hy | rfl
 ·exact h.2.2 ys hy
 ·unfold rowB
  simp only [Bool.and_eq_true, decide_eq_true_eq, List.all_eq_true]
  exact ⟨by omega, fun z hz => h9.2 z (by simp [hz])⟩
/-- what a machine is, put together -/
theorem machB_mk {X : Mch} (h1 : magB X.f X.ms = true) (h2 : 0 ≤ X.sp ∧ X.sp ≤ 60) (h3 : X.wt.length ≤ 240) (h4 : X.wt.all (matB X.f) = true) (h5 : X.ln.length ≤ 120) (h6 : X.ln.all (setM X.f) = true) (h7 : goodB X.m (itemsM X.f X.ln) = true) : machB X = true := by
 unfold machB
 rw [h1, h4, h6, h7, (inB_iff _ _ _).2 h2, decide_eq_true h3, decide_eq_true h5]; rfl
theorem keyX_mach {X : Mch} {r : Int} (h : machB X = true) (hy : keyYes X r = true) : machB (keyX X r) = true := by
 obtain ⟨hm, hsp, hwl, hwa, hln, hset, hg⟩ := machB_parts h
 obtain ⟨s0, s1⟩ := (inB_iff _ _ _).1 hsp
 unfold keyYes at hy
 unfold keyX
 by_cases hr : r = 32
 ·rw [if_pos hr] at hy
  rw [if_pos hr]
  rw [Bool.and_eq_true, decide_eq_true_eq] at hy
  unfold bandX
  rw [if_neg hy.1, hy.2, if_pos rfl]
  refine machB_mk hm ⟨by show 0 ≤ X.sp - 1; have := hy.1; omega, by show X.sp - 1 ≤ 60; omega⟩ hwl hwa (addOk_len hy.2) ?_ hy.2
  show (X.ln ++ [((-1 : Int), (0 : Int))]).all (setM X.f) = true
  rw [List.all_append, hset]; rfl
 ·rw [if_neg hr] at hy
  rw [if_neg hr]
  unfold keyRow at hy
  by_cases hk : keyTo X.f.s r X.f.s.size < 0
  ·rw [if_pos hk] at hy; cases hy
  ·rw [if_neg hk] at hy
   rw [if_neg hk]
   unfold keyMX
   cases hrow : X.ms.getD (keyTo X.f.s r X.f.s.size).toNat [] with
   | nil => rw [hrow] at hy; cases hy
   | cons x xs =>
    rw [hrow] at hy
    simp only at hy
    simp only [hy, if_true]
    obtain ⟨hmt, hx⟩ := magB_tail hm hrow
    refine machB_mk hmt ⟨s0, s1⟩ hwl hwa (addOk_len hy) ?_ hy
    show (X.ln ++ [x]).all (setM X.f) = true
    rw [List.all_append, hset]
    simp only [List.all_cons, List.all_nil, Bool.and_true, Bool.true_and]
    unfold setM
    rw [hx]; simp
end Go.Proofs.YtimhnkpccbcohaaGreatDoor

namespace Go.Proofs.YtimhnkpccbcohaaGreatDoor
open Go.RowKit
set_option linter.unusedVariables false

theorem magB_rows {f : Fnt} {ms : List (List Mat)} (h : magB f ms = true) : fontB f = true ∧ ms.length = f.s.size ∧ ∀ xs ∈ ms, xs.length ≤ 20 ∧ ∀ x ∈ xs, matB f x = true := by
 unfold magB at h
 simp only [Bool.and_eq_true, beq_iff_eq, List.all_eq_true] at h
 refine ⟨h.1, h.2.1, fun xs hx => ?_⟩
 have := h.2.2 xs hx
 unfold rowB at this
 simp only [Bool.and_eq_true, decide_eq_true_eq, List.all_eq_true] at this
 exact this
end Go.Proofs.YtimhnkpccbcohaaGreatDoor
