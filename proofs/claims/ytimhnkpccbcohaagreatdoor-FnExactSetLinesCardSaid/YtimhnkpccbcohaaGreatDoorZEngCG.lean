/-
 Contracts and plain mathematics (KeyD, PlanD, EngC), each with its conditions in its own statement.
-/
import Derived.Test.YtimhnkpccbcohaaGreatDoorZKeyC
import Derived.Test.YtimhnkpccbcohaaGreatDoorZPkI
import Derived.Test.YtimhnkpccbcohaaGreatDoorZPkK
import Derived.Test.YtimhnkpccbcohaaGreatDoorZPkF
namespace Go.Proofs.YtimhnkpccbcohaaGreatDoor
open Go.RowKit Go.Conc Go.Maps
set_option linter.unusedVariables false
set_option linter.unusedSimpArgs false

theorem key_hasQ {s : ByteArray} (hl : lettersB s = true) {x : Int} (h0 : 0 ≤ x) :
  (Maps.has (keysD s s.size) (.int .i32 x) = true → ∃ i : Nat, keyTo s x s.size = i ∧ i < s.size ∧ (keysD s s.size).atKey (.int .i32 x) (.lit (.int .i64 0)) = .lit (.int .i64 i)) ∧ (Maps.has (keysD s s.size) (.int .i32 x) = false → keyTo s x s.size = -1) := by
 obtain ⟨b, rfl⟩ := Int.eq_ofNat_of_zero_le h0
 rw [keysD_has]
 constructor
 ·intro h
  rw [List.any_eq_true] at h
  obtain ⟨k, hk, hb⟩ := h
  rw [List.mem_range] at hk
  have hb : byt s k = b := by simpa using hb
  subst hb
  have hu := fun j hj e => lettersB_dist hl j k hj hk e
  exact ⟨k, keyTo_hit hk rfl (fun j hj e => by have := hu j (by omega) (by omega); omega), hk, keysD_at hk hu _⟩
 ·intro h
  rw [List.any_eq_false] at h
  exact keyTo_none (fun j hj e => h j (List.mem_range.2 hj) (by simp; omega))
/-- the machine and the error after a rune is keyed -/
def keyX (X : Mch) (r : Int) : Mch := if r = 32 then bandX X else if keyTo X.f.s r X.f.s.size < 0 then X else keyMX X (keyTo X.f.s r X.f.s.size).toNat
structure Errs where
 tf : TypeId
 uf : Value
 tb : TypeId
 ub : Value
 te : TypeId
 ue : Value
 tk : TypeId
 uk : Value
def keyE (X : Mch) (r : Int) (e : Errs) : Value := if r = 32 then bandE X e.tb e.ub e.tf e.uf else if keyTo X.f.s r X.f.s.size < 0 then .iface e.tk e.uk else keyME X (keyTo X.f.s r X.f.s.size).toNat e.te e.ue e.tf e.uf
structure ErrsAt (w : World) (lo : Nat) (e : Errs) : Prop where
 pf : w.cell? ⟨7, 0, none⟩ = some (.iface e.tf e.uf)
 pb : w.cell? ⟨6, 0, none⟩ = some (.iface e.tb e.ub)
 pe : w.cell? ⟨8, 0, none⟩ = some (.iface e.te e.ue)
 pk : w.cell? ⟨5, 0, none⟩ = some (.iface e.tk e.uk)
 fl : 7 < lo
 bl : 6 < lo
 el : 8 < lo
 kl : 5 < lo
set_option maxRecDepth 100000 in
set_option maxHeartbeats 6400000 in
theorem engKey_any (lo E : Nat) (X : Mch) (r : Int) (w : World) {A : Option Addr} {c : Nat} {A2 : Option Addr} {d : Nat} {M : Option Addr} {q e0 : Nat} {L : Option Addr} {lc : Nat} {T : Option Addr} {tc : Nat} {Bc : Option Addr} {dc B hi : Nat} {hs : List (Option Nat)} {km f0 f1 l0 l1 t0 t1 p0 p1 : Nat} (hP : EngT w lo E X A c A2 d M q e0 L lc T tc Bc dc B hi hs km f0 f1 l0 l1 t0 t1 p0 p1) (hr0 : 0 ≤ r) (hrw : (Lit.int .i32 r).wf = true) (hlet : lettersB X.f.s = true) (hms : X.f.s.size ≤ X.ms.length) (hlim : ∀ xs ∈ X.ms, xs.length ≤ 20) (hkind : ∀ xs ∈ X.ms, ∀ x ∈ xs, 0 ≤ x.1 ∧ x.1.toNat < X.f.ws.length) (hln : X.ln.length ≤ 120) (hset : ∀ x ∈ X.ln, bandM x = true ∨ (0 ≤ x.1 ∧ x.1.toNat < X.f.ws.length)) (hs0 : 0 ≤ X.sp) (hs1 : X.sp ≤ 60) (e : Errs) (hE : ErrsAt w lo e) :
  Calls Tryz.prog 102 #[.pointer (some ⟨E, 0, none⟩), .int .i32 r] w fun en w' => en = .returned (keyE X r e) ∧ (∃ (L' : Option Addr) (lc' l0' l1' : Nat), EngT w' lo E (keyX X r) A c A2 d M q e0 L' lc' T tc Bc dc B hi hs km f0 f1 l0' l1' t0 t1 p0 p1 ∧ ((l0' = l0 ∧ l1' = l1) ∨ w.heap.size ≤ l0')) ∧ Below lo w w' ∧ Elder E l0 l1 B hi w w' := by
 unfold keyE keyX
 obtain ⟨hEf, hEb, hEe, hEk, hfl, hbl, hel, hkl⟩ := hE
 by_cases hr : r = 32
 ·subst hr
  simp only [if_true]
  go_enter Tryz.func102, Tryz.ntmps102
  go_wp2_with fail
  refine (engBand_any lo E X w hP hln hset hs0 hs1 e.tf e.uf hEf hfl e.tb e.ub hEb hbl).mono ?_
  rintro en w1 ⟨rfl, hX, hb1, hel⟩
  have HX := Lib.hid hX; have HB := Lib.hid hb1; have HEL := Lib.hid hel
  clear hX hb1 hel hEf hEb hEe hEk hP
  go_wp2
  go_ret
  exact ⟨rfl, HX.out, HB.out, HEL.out⟩
 ·rw [if_neg hr, if_neg hr]
  have hrd : (r == 32) = false := by simp [hr]
  obtain ⟨b, rfl⟩ := Int.eq_ofNat_of_zero_le hr0
  have hkey : keyOf Tryz.prog 21 (.int .i32 (b : Int)) = some (.int .i32 (b : Int)) := keyOf_int_mk Tryz.underlying21 hrw
  have hown := hP.keys
  have g12 := cellOfBlk hP.blk 12
  have g12 : w.cell? ⟨E, 12, none⟩ = some (.map (some km)) := g12
  have hh2 := key_hasQ hlet hr0
  have HP := Lib.hid hP; have HEe := Lib.hid hEe; have HEf := Lib.hid hEf; have HLIM := Lib.hid hlim; have HKIND := Lib.hid hkind; have HSET := Lib.hid hset
  clear hr hP hEe hEf hEb hlim hkind hset hlet
  cases hh : Maps.has (keysD X.f.s X.f.s.size) (.int .i32 (b : Int))
  ·have hk := hh2.2 hh
   rw [hk]
   simp only [show ((-1 : Int) < 0) = True from by simp, if_true]
   clear hk hh2
   go_enter Tryz.func102, Tryz.ntmps102
   go_wp2_with (at_lookup; refine wpList_lookup_own_ok_int _ rfl _ _ 115 rfl 21 3 .i64 keyLaw Tryz.underlying115 Tryz.underlying3 (zeroInt _) _ _ _ rfl hown _ _ rfl hkey ?_; intro c hat hwc; clear hat hwc)
   go_ret
   exact ⟨rfl, ⟨_, _, _, _, HP.out, .inl ⟨rfl, rfl⟩⟩, Below.refl _ _, fun _ _ _ _ _ => rfl⟩
  ·obtain ⟨i, hk1, hk3, hk4⟩ := hh2.1 hh
   rw [hk1, if_neg (by omega), if_neg (by omega), Int.toNat_natCast]
   have HK4 := Lib.hid hk4
   clear hk1 hk4 hh2
   go_enter Tryz.func102, Tryz.ntmps102
   go_wp2_with (first | (at_lookup; refine wpList_lookup_own_ok_int _ rfl _ _ 115 rfl 21 3 .i64 keyLaw Tryz.underlying115 Tryz.underlying3 (zeroInt _) _ _ _ rfl hown _ _ rfl hkey ?_; intro c hat hwc; obtain rfl : (i : Int) = c := (by have h9 := HK4.out.symm.trans hat; injection h9 with h9; injection h9 with _ h9); clear hat hwc) | fail)
   refine (engMat_any lo E X i w HP.out (by omega) HLIM.out HKIND.out hln HSET.out e.te e.ue HEe.out e.tf e.uf HEf.out hfl).mono ?_
   rintro en w1 ⟨rfl, hX, hb1, hel⟩
   have HX := Lib.hid hX; have HB := Lib.hid hb1; have HEL := Lib.hid hel
   clear hX hb1 hel hEk hown g12
   go_wp2
   go_ret
   exact ⟨rfl, HX.out, HB.out, HEL.out⟩
end Go.Proofs.YtimhnkpccbcohaaGreatDoor

namespace Go.Proofs.YtimhnkpccbcohaaGreatDoor
open Go.RowKit Go.Shelf Go.Conc
set_option linter.unusedVariables false
set_option linter.unusedSimpArgs false

section
variable {P : Program} {ops : Array Oper} {Q : Exit → Act → World → Prop} {S : World → Prop} {md : Region.Mode} {L : Nat}
/-- L waits for i itself -/
def waitsOn (md : Region.Mode) (ops : Array Oper) (L i : Nat) : Bool := match ops[L]? with
 | some o => o.after.toList.any fun e => Region.binds md e && e.on == i
 | none => true
theorem waitsOn_no {i : Nat} (h : waitsOn md ops L i = true) (hiL : i ≠ L) {listed : Array Bool} (hz : listed.size = ops.size) (hr : L ∈ Region.ready md ops listed) (hi : i ∈ Region.ready md ops listed) : False := by
 obtain ⟨hu, o, ho, hall⟩ := mem_ready.1 hr
 obtain ⟨hui, oi, hoi, -⟩ := mem_ready.1 hi
 unfold waitsOn at h
 rw [ho] at h
 simp only at h
 have hil := (Array.getElem?_eq_some_iff.1 hoi).1
 rw [List.any_eq_true] at h
 obtain ⟨e, he, hb⟩ := h
 rw [Bool.and_eq_true] at hb
 have h2 := hall e (by simpa using he) hb.1
 rw [eq_of_beq hb.2] at h2
 have hil2 : i < listed.size := by omega
 simp [hil2] at hui h2
 rw [hui] at h2; cases h2
def planDB (ops : Array Oper) (L : Nat) : PlanT → Nat → Array Bool → Bool
 | .done, _, listed => (Region.ready .any ops listed).isEmpty
 | .last i, k + 1, listed => i == L && ((Region.ready .any ops listed == [i]) && (Region.ready .any ops (listed.setIfInBounds i true)).isEmpty)
 | .take i p, k + 1, listed => (i != L) && (waitsOn .any ops L i && (Region.free .any ops listed i && ((Region.ready .any ops listed).contains i && planDB ops L p k (listed.setIfInBounds i true))))
 | .one i p, k + 1, listed => (Region.ready .any ops listed == [i]) && planDB ops L p k (listed.setIfInBounds i true)
 | _, 0, _ => false
theorem anyD_first {i : Nat} {oi : Oper} {v : Value} (hw : waitsOn md ops L i = true) (hiL : i ≠ L) (hi : ops[i]? = some oi) (hsel : ∀ (j : Nat) (o : Oper) cs b, ops[j]? = some o → o.op ≠ .select cs b) :
  ∀ (k : Nat) (listed : Array Bool) (a : Act) (w : World), listed.size = ops.size →
   (∀ j oj, ops[j]? = some oj → j ≠ i → listed.getD j true = false → (∀ e ∈ oj.after, Region.binds md e = true → e.on ≠ i) → oi.apart ops oj = true) →
   i ∈ Region.ready md ops listed → QuietAt P ops S oi v a → S w →
   wpAnyC P md ops Q S L k (listed.setIfInBounds i true) (a.put oi.dst v) w → wpAnyC P md ops Q S L (k + 1) listed a w := by
 intro k
 induction k with
 | zero =>
  intro listed a w hz _ hr hy hS H
  refine ⟨fun h => (by rw [h] at hr; cases hr), fun j hj => ?_⟩
  rcases Decidable.em (j = i) with rfl | hji
  ·exact hy.step hi hS ⟨.inr hS, H⟩
  ·have h0 := ready_mono hj hji
   rw [H.1] at h0; cases h0
 | succ k ih =>
  intro listed a w hz hfree hr hy hS H
  refine ⟨fun h => (by rw [h] at hr; cases hr), fun j hj => ?_⟩
  rcases Decidable.em (j = i) with rfl | hji
  ·exact hy.step hi hS ⟨.inr hS, H⟩
  have hjL : j ≠ L := fun e => by subst e; exact waitsOn_no hw hiL hz hj hr
  obtain ⟨hjun, oj, hoj, hall⟩ := mem_ready.1 hj
  have hnot : ∀ e ∈ oj.after, Region.binds md e = true → e.on ≠ i := fun e he hb heq => by
   have h1 := hall e he hb
   have h0 := (mem_ready.1 hr).1
   rw [heq] at h1
   have hil : i < listed.size := by rw [hz]; exact (Array.getElem?_eq_some_iff.1 hi).1
   simp [hil] at h0 h1
   rw [h0] at h1; cases h1
  have hput := cStep_put hoj (hfree j oj hoj hji hjun hnot) (fun cs b => hsel i oi cs b hi) (fun cs b => hsel j oj cs b hoj) hy (H.2 j (ready_mono hj hji))
  refine cStep_mono (fun a' w' h3 => ?_) hput
  have hS' : S w' := h3.2.1.resolve_left hjL
  refine ⟨.inr hS', ih (listed.setIfInBounds j true) a' w' (by simp [hz]) ?_ (ready_mono hr (Ne.symm hji)) h3.1 hS' ?_⟩
  ·intro x ox hx hxi hun hno
   refine hfree x ox hx hxi ?_ hno
   rcases Decidable.em (j = x) with rfl | hjx
   ·exact hjun
   ·rw [Go.getD_set_ne true hjx] at hun; exact hun
  ·rw [Array.setIfInBounds_comm _ _ hji]
   exact h3.2.2
theorem planD_any (hs : Region.noSelect ops = true) : ∀ (pl : PlanT) (k : Nat) (listed : Array Bool) (a : Act) (w : World), listed.size = ops.size → planDB ops L pl k listed = true → S w → wpPlanC P ops Q S pl a w →
  wpAnyC P .any ops Q S L k listed a w
 | .done, 0, listed, a, w, hz, hB, hS, h => ⟨List.isEmpty_iff.1 hB, h⟩
 | .done, k + 1, listed, a, w, hz, hB, hS, h => by
  have hB : (Region.ready .any ops listed).isEmpty = true := hB
  rw [List.isEmpty_iff] at hB
  exact ⟨fun _ => h, by rw [hB]; simp⟩
 | .last i, 0, listed, a, w, hz, hB, hS, h => by simp [planDB] at hB
 | .take i p, 0, listed, a, w, hz, hB, hS, h => by simp [planDB] at hB
 | .one i p, 0, listed, a, w, hz, hB, hS, h => by simp [planDB] at hB
 | .last i, k + 1, listed, a, w, hz, hB, hS, h => by
  unfold planDB at hB
  rw [Bool.and_eq_true, Bool.and_eq_true] at hB
  have h1 := eq_of_beq hB.2.1
  refine ⟨fun h0 => (by rw [h0] at h1; cases h1), fun j hj => ?_⟩
  rw [h1, List.mem_singleton] at hj
  subst hj
  refine cStep_mono (fun a' w' h' => ⟨.inl (eq_of_beq hB.1), ?_⟩) h
  have h2 := List.isEmpty_iff.1 hB.2.2
  cases k with
  | zero => exact ⟨h2, h'⟩
  | succ k => exact ⟨fun _ => h', by rw [h2]; simp⟩
 | .take i p, k + 1, listed, a, w, hz, hB, hS, h => by
  unfold planDB at hB
  rw [Bool.and_eq_true, Bool.and_eq_true, Bool.and_eq_true, Bool.and_eq_true] at hB
  obtain ⟨o, v, ho, hy, h⟩ := h
  exact anyD_first hB.2.1 (by simpa using hB.1) ho (Region.noSelect_spec hs) k listed a w hz (Region.free_spec ho hB.2.2.1) (by simpa using hB.2.2.2.1) hy hS (planD_any hs p k _ _ _ (by simp [hz]) hB.2.2.2.2 hS h)
 | .one i p, k + 1, listed, a, w, hz, hB, hS, h => by
  unfold planDB at hB
  rw [Bool.and_eq_true] at hB
  have h1 := eq_of_beq hB.1
  refine ⟨fun h0 => (by rw [h0] at h1; cases h1), fun j hj => ?_⟩
  rw [h1, List.mem_singleton] at hj
  subst hj
  exact cStep_mono (fun a' w' h' => ⟨.inr h'.1, planD_any hs p k _ _ _ (by simp [hz]) hB.2 h'.1 h'.2⟩) h
theorem wp_region_planD {id : Nat} {a : Act} {w : World} (L : Nat) (pl : PlanT) (S : World → Prop) (hm : P.follows .mixedOrders = true) (hs : Region.noSelect ops = true) (hB : planDB ops L pl ops.size (Array.replicate ops.size false) = true)
  (hS : S w.drew) (h : wpPlanC P ops Q S pl a w.drew) : (Code.region id ops true).wp P Q a w := by
 refine wp_region_inv (fun listed a w => ∃ k, wpAnyC P .any ops Q S L k listed a w) hm ?_ ?_ ⟨_, planD_any hs pl _ _ a w.drew (by simp) hB hS h⟩
 ·rintro listed a w ⟨k, hk⟩ i hi
  cases k with
  | zero => rw [hk.1] at hi; cases hi
  | succ k => exact cStep_to (cStep_mono (fun a' w' h' => ⟨k, h'.2⟩) (hk.2 i hi))
 ·rintro listed a w ⟨k, hk⟩ hr
  cases k with
  | zero => exact hk.2
  | succ k => exact hk.1 hr
end
end Go.Proofs.YtimhnkpccbcohaaGreatDoor

namespace Go.Proofs.YtimhnkpccbcohaaGreatDoor
open Go.RowKit Go.Conc
set_option linter.unusedVariables false
set_option linter.unusedSimpArgs false

def bndN (xs : List Mat) : Nat := (xs.filter bandM).length
def mtsN (xs : List Mat) : List Mat := xs.filter fun x => !bandM x
theorem bndN_take {xs : List Mat} {j : Nat} {x : Mat} (h : xs[j]? = some x) : bndN (xs.take (j + 1)) = if bandM x then bndN (xs.take j) + 1 else bndN (xs.take j) := by
 unfold bndN; rw [take_next h, List.filter_append]; cases hb : bandM x <;> simp [hb]
theorem mtsN_take {xs : List Mat} {j : Nat} {x : Mat} (h : xs[j]? = some x) : mtsN (xs.take (j + 1)) = if bandM x then mtsN (xs.take j) else mtsN (xs.take j) ++ [x] := by
 unfold mtsN; rw [take_next h, List.filter_append]; cases hb : bandM x <;> simp [hb]
theorem bndN_le (xs : List Mat) (j : Nat) : bndN (xs.take j) ≤ j := by
 unfold bndN; exact Nat.le_trans (List.length_filter_le _ _) (by rw [List.length_take]; omega)
theorem mtsN_le (xs : List Mat) (j : Nat) : (mtsN (xs.take j)).length ≤ j := by
 unfold mtsN; exact Nat.le_trans (List.length_filter_le _ _) (by rw [List.length_take]; omega)
/-- all elder blocks but E and those from t0 to t1 stay -/
def Beyond (E t0 t1 : Nat) (w w' : World) : Prop := ∀ k, k < w.heap.size → k ≠ E → ¬ (t0 ≤ k ∧ k < t1) → w'.heap[k]? = w.heap[k]?
/-- what clearLine leaves -/
def clearX (X : Mch) : Mch := ⟨X.f, X.ms, X.sp + (bndN X.ln : Int), X.w, X.t, X.k, [], X.wt ++ mtsN X.ln⟩
def clearOk (X : Mch) : Bool := decide ((clearX X).sp ≤ 60) && decide ((clearX X).wt.length ≤ 240)
def clearE (X : Mch) (ct : TypeId) (cu : Value) : Value := if clearOk X then .nilIface else .iface ct cu
theorem clearE_yes {X : Mch} {ct : TypeId} {cu : Value} (h : clearOk X = true) : clearE X ct cu = .nilIface := by unfold clearE; rw [h]; rfl
theorem clearE_no {X : Mch} {ct : TypeId} {cu : Value} (h : clearOk X = false) : clearE X ct cu = .iface ct cu := by unfold clearE; rw [h]; rfl
end Go.Proofs.YtimhnkpccbcohaaGreatDoor
