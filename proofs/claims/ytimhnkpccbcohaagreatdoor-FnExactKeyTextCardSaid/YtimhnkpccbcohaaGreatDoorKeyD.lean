/-
  key of the engine by contract: a blank is a band, a letter of the font is keyed, what is neither has no key. Conditions: a machine as it should be; the four listed errors read as laid.
-/
import Derived.Test.YtimhnkpccbcohaaGreatDoorKeyC
namespace Go.Proofs.YtimhnkpccbcohaaGreatDoor
open Go.RowKit Go.Conc Go.Maps
set_option linter.unusedVariables false
set_option linter.unusedSimpArgs false

theorem key_hasQ {s : ByteArray} (hl : lettersB s = true) {x : Int} (h0 : 0 ≤ x) :
    (Maps.has (keysD s s.size) (.int .i32 x) = true → ∃ i : Nat, keyTo s x s.size = i ∧ i < s.size ∧ (keysD s s.size).atKey (.int .i32 x) (.lit (.int .i64 0)) = .lit (.int .i64 i)) ∧ (Maps.has (keysD s s.size) (.int .i32 x) = false → keyTo s x s.size = -1) := by
  obtain ⟨b, rfl⟩ := Int.eq_ofNat_of_zero_le h0
  rw [keysD_has]
  constructor
  · intro h
    rw [List.any_eq_true] at h
    obtain ⟨k, hk, hb⟩ := h
    rw [List.mem_range] at hk
    have hb : byt s k = b := by simpa using hb
    subst hb
    have hu := fun j hj e => lettersB_dist hl j k hj hk e
    exact ⟨k, keyTo_hit hk rfl (fun j hj e => by have := hu j (by omega) (by omega); omega), hk, keysD_at hk hu _⟩
  · intro h
    rw [List.any_eq_false] at h
    exact keyTo_none (fun j hj e => h j (List.mem_range.2 hj) (by simp; omega))
/-- the machine and the error after a rune is keyed -/
def keyX (X : Mch) (r : Int) : Mch := if r = 32 then bandX X else if keyTo X.f.s r X.f.s.size < 0 then X else keyMX X (keyTo X.f.s r X.f.s.size).toNat
structure Errs where
  tf : TypeId
  uf : Value
  tb : TypeId
  ub : Value
  te : TypeId
  ue : Value
  tk : TypeId
  uk : Value
def keyE (X : Mch) (r : Int) (e : Errs) : Value := if r = 32 then bandE X e.tb e.ub e.tf e.uf else if keyTo X.f.s r X.f.s.size < 0 then .iface e.tk e.uk else keyME X (keyTo X.f.s r X.f.s.size).toNat e.te e.ue e.tf e.uf
structure ErrsAt (w : World) (lo : Nat) (e : Errs) : Prop where
  pf : w.cell? ⟨7, 0, none⟩ = some (.iface e.tf e.uf)
  pb : w.cell? ⟨6, 0, none⟩ = some (.iface e.tb e.ub)
  pe : w.cell? ⟨8, 0, none⟩ = some (.iface e.te e.ue)
  pk : w.cell? ⟨5, 0, none⟩ = some (.iface e.tk e.uk)
  fl : 7 < lo
  bl : 6 < lo
  el : 8 < lo
  kl : 5 < lo
set_option maxRecDepth 100000 in
set_option maxHeartbeats 6400000 in
theorem engKey_any (lo E : Nat) (X : Mch) (r : Int) (w : World) {A : Option Addr} {c : Nat} {A2 : Option Addr} {d : Nat} {M : Option Addr} {q e0 : Nat} {L : Option Addr} {lc : Nat} {T : Option Addr} {tc : Nat} {Bc : Option Addr} {dc B hi : Nat} {hs : List (Option Nat)} {km f0 f1 l0 l1 t0 t1 p0 p1 : Nat} (hP : EngT w lo E X A c A2 d M q e0 L lc T tc Bc dc B hi hs km f0 f1 l0 l1 t0 t1 p0 p1) (hr0 : 0 ≤ r) (hrw : (Lit.int .i32 r).wf = true) (hlet : lettersB X.f.s = true) (hms : X.f.s.size ≤ X.ms.length) (hlim : ∀ xs ∈ X.ms, xs.length ≤ 20) (hkind : ∀ xs ∈ X.ms, ∀ x ∈ xs, 0 ≤ x.1 ∧ x.1.toNat < X.f.ws.length) (hln : X.ln.length ≤ 120) (hset : ∀ x ∈ X.ln, bandM x = true ∨ (0 ≤ x.1 ∧ x.1.toNat < X.f.ws.length)) (hs0 : 0 ≤ X.sp) (hs1 : X.sp ≤ 60) (e : Errs) (hE : ErrsAt w lo e) :
    Calls Tryz.prog 102 #[.pointer (some ⟨E, 0, none⟩), .int .i32 r] w fun en w' => en = .returned (keyE X r e) ∧ (∃ (L' : Option Addr) (lc' l0' l1' : Nat), EngT w' lo E (keyX X r) A c A2 d M q e0 L' lc' T tc Bc dc B hi hs km f0 f1 l0' l1' t0 t1 p0 p1 ∧ ((l0' = l0 ∧ l1' = l1) ∨ w.heap.size ≤ l0')) ∧ Below lo w w' ∧ Elder E l0 l1 B hi w w' := by
  unfold keyE keyX
  obtain ⟨hEf, hEb, hEe, hEk, hfl, hbl, hel, hkl⟩ := hE
  by_cases hr : r = 32
  · subst hr
    simp only [if_true]
    go_enter Tryz.func102, Tryz.ntmps102
    go_wp2_with fail
    refine (engBand_any lo E X w hP hln hset hs0 hs1 e.tf e.uf hEf hfl e.tb e.ub hEb hbl).mono ?_
    rintro en w1 ⟨rfl, hX, hb1, hel⟩
    have HX := Lib.hid hX; have HB := Lib.hid hb1; have HEL := Lib.hid hel
    clear hX hb1 hel hEf hEb hEe hEk hP
    go_wp2
    go_ret
    exact ⟨rfl, HX.out, HB.out, HEL.out⟩
  · rw [if_neg hr, if_neg hr]
    have hrd : (r == 32) = false := by simp [hr]
    obtain ⟨b, rfl⟩ := Int.eq_ofNat_of_zero_le hr0
    have hkey : keyOf Tryz.prog 21 (.int .i32 (b : Int)) = some (.int .i32 (b : Int)) := keyOf_int_mk Tryz.underlying21 hrw
    have hown := hP.keys
    have g12 := cellOfBlk hP.blk 12
    have g12 : w.cell? ⟨E, 12, none⟩ = some (.map (some km)) := g12
    have hh2 := key_hasQ hlet hr0
    have HP := Lib.hid hP; have HEe := Lib.hid hEe; have HEf := Lib.hid hEf; have HLIM := Lib.hid hlim; have HKIND := Lib.hid hkind; have HSET := Lib.hid hset
    clear hr hP hEe hEf hEb hlim hkind hset hlet
    cases hh : Maps.has (keysD X.f.s X.f.s.size) (.int .i32 (b : Int))
    · have hk := hh2.2 hh
      rw [hk]
      simp only [show ((-1 : Int) < 0) = True from by simp, if_true]
      clear hk hh2
      go_enter Tryz.func102, Tryz.ntmps102
      go_wp2_with (at_lookup; refine wpList_lookup_own_ok_int _ rfl _ _ 115 rfl 21 3 .i64 keyLaw Tryz.underlying115 Tryz.underlying3 (zeroInt _) _ _ _ rfl hown _ _ rfl hkey ?_; intro c hat hwc; clear hat hwc)
      go_ret
      exact ⟨rfl, ⟨_, _, _, _, HP.out, .inl ⟨rfl, rfl⟩⟩, Below.refl _ _, fun _ _ _ _ _ => rfl⟩
    · obtain ⟨i, hk1, hk3, hk4⟩ := hh2.1 hh
      rw [hk1, if_neg (by omega), if_neg (by omega), Int.toNat_natCast]
      have HK4 := Lib.hid hk4
      clear hk1 hk4 hh2
      go_enter Tryz.func102, Tryz.ntmps102
      go_wp2_with (first | (at_lookup; refine wpList_lookup_own_ok_int _ rfl _ _ 115 rfl 21 3 .i64 keyLaw Tryz.underlying115 Tryz.underlying3 (zeroInt _) _ _ _ rfl hown _ _ rfl hkey ?_; intro c hat hwc; obtain rfl : (i : Int) = c := (by have h9 := HK4.out.symm.trans hat; injection h9 with h9; injection h9 with _ h9); clear hat hwc) | fail)
      refine (engMat_any lo E X i w HP.out (by omega) HLIM.out HKIND.out hln HSET.out e.te e.ue HEe.out e.tf e.uf HEf.out hfl).mono ?_
      rintro en w1 ⟨rfl, hX, hb1, hel⟩
      have HX := Lib.hid hX; have HB := Lib.hid hb1; have HEL := Lib.hid hel
      clear hX hb1 hel hEk hown g12
      go_wp2
      go_ret
      exact ⟨rfl, HX.out, HB.out, HEL.out⟩
end Go.Proofs.YtimhnkpccbcohaaGreatDoor
