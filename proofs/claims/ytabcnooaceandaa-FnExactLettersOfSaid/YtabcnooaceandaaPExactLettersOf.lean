/-
  The law FnExactLettersOf at every input: the call returns true and each argument reads as it read before. No condition.
-/
import Derived.Test.YtabcnooaceandaaLawsLett
import Derived.Test.YtabcnooaceandaaHead
import Derived.Test.YtabcnooaceandaaOpen
import Derived.ProofKit
import Derived.OpenShut
import Derived.ShutString
import Derived.ChangeOld
import Derived.Below
namespace Go.Proofs.Ytabcnooaceandaa.fnExactLettersOf
open Go.ChangeShapes Go.WideShapes Go.ChangeAt Go.RowKit
open Go.ChangeMaps (open_string shut_string)
set_option linter.unusedVariables false

theorem own : ownKnob Try.prog.godebug = none := by kernel_rfl
theorem laidOut : laidOutB Try.prog = true := by kernel_rfl

set_option maxRecDepth 100000 in
theorem lifted (os : Os) (started : os.Started) (H : Type) (enc : TypeId × Value → H) :
    ReturnsInHanded {} Try.checked os 14 .any (Rows.fnExactLettersOfSpec.pre6 enc Try.prog Try.f14 Rows.fnExactLettersOfRow.domain false) (Rows.fnExactLettersOfSpec.post enc Try.prog Try.f14 false true false false) := by
  refine returnsInHanded_of_change (C := Try.checked) own started (by kernel_rfl) Try.func14
    (ChangeSpec.witness6 (enc := enc) (C := Try.checked) false ⟨#[], #[.agg #[.string ByteArray.empty, .slice none 0 0, .slice none 0 0], .slice none 0 0], []⟩ 8 (by kernel_rfl) (by kernel_rfl) (by kernel_rfl) (by kernel_rfl)) ?_
  intro W base args ds gs before hval0 hW hcnd _
  have hval : ∀ (j : Nat) t v, Try.f14.params[j]? = some t → args[j]? = some v → Value.okWide Try.prog W .any base t v := hval0
  have hW' := hW
  obtain ⟨p, q, hA0, hV, rfl, hfz, hnd⟩ := hW
  have hA : DataW.TrodAll enc Try.prog W 0 (fun _ => true) true Try.f14.params.toList args.toList ds p := hA0
  rw [Try.params14] at hA hval
  obtain ⟨v0, vs0, d0, ds0, p0, q0, hargs, rfl, rfl, h0, r0⟩ := trodAll_cons hA
  obtain ⟨v1, vs1, d1, ds1, p1, q1, rfl, rfl, rfl, h1, r1⟩ := trodAll_cons r0
  obtain ⟨rfl, rfl, rfl⟩ := trodAll_nil r1
  obtain rfl : args = #[v0, v1] := by cases args; simp_all
  obtain ⟨rfl, rfl⟩ := trodVars_none hV
  have k0 := h0
  have lt0 : ∀ x ∈ p0, x.block < W.heap.size := by obtain ⟨m, hm⟩ := k0; exact DataW.trod_lt m _ _ _ hm
  obtain ⟨f0, w0⟩ := openFont (hval 0 46 v0 rfl rfl) h0
  have k1 := h1
  have lt1 : ∀ x ∈ p1, x.block < W.heap.size := by obtain ⟨m, hm⟩ := k1; exact DataW.trod_lt m _ _ _ hm
  obtain ⟨a1, c1, z1, rfl, hc1, hm1, w1, wf1⟩ := openMats (hval 1 63 v1 rfl rfl) h1
  clear hA0 hval0
  refine (fnExactLettersOf_walk 0 W.heap.size v0 f0 0 W.heap.size a1 c1 z1 W w0 (Nat.le_refl _) hc1 hm1 w1 (Nat.le_refl _) wf1).mono fun e W' ⟨he, bel⟩ => ?_
  subst he
  exact ⟨_, rfl, _, _, _, [], _, [], hW', trodAll_mk1 (shut_bool Try.underlying4 _), (trodAll_cons_mk (Below.trod laidOut (by kernel_rfl) (of_decide_eq_true (by kernel_rfl)) k0 bel lt0) (trodAll_cons_mk (Below.trod laidOut (by kernel_rfl) (of_decide_eq_true (by kernel_rfl)) k1 bel lt1) trodAll_mk0)), rfl, bel.frame _, fun h => by cases h⟩

theorem f_inPlace : Try.prog.inPlace 14 = Rows.fnExactLettersOfRow.inPlace := by kernel_rfl
theorem f_unfollowed : Try.prog.unfollowed 14 = Rows.fnExactLettersOfRow.unfollowed := by kernel_rfl
theorem f_recurses : Try.prog.recurses 14 = Rows.fnExactLettersOfRow.recurses := by kernel_rfl
theorem f_named : Try.prog.varsNamed 14 = Rows.fnExactLettersOfRow.named := by kernel_rfl
theorem closed : joinedFacts Try.prog 14 Try.f14 Rows.fnExactLettersOfSpec Rows.fnExactLettersOfRow = true := by
  rw [joinedFacts, mayEnter, liftsFinal, make, f_inPlace, f_unfollowed, f_recurses, f_named]
  kernel_rfl
theorem over : Rows.fnExactLettersOfRow.holds Try.pinned (OpenSpec.ofChange Rows.fnExactLettersOfSpec) :=
  OpenClaim.holds_of_wide 14 Try.f14 rfl rfl rfl rfl rfl rfl rfl ⟨rfl, rfl, rfl, rfl, rfl⟩ rfl rfl rfl rfl rfl (by kernel_rfl) Try.func14 closed
    (of_decide_eq_true (by kernel_rfl)) (by unfold Func.isWrapper; first | (rw [if_pos (by decide +kernel)]; kernel_rfl) | (rw [if_neg (by decide +kernel)]; exact ⟨rfl, rfl⟩))
    (fun os started H enc _ => lifted os started H enc)

theorem proved : Rows.FnExactLettersOfSaid := over
end Go.Proofs.Ytabcnooaceandaa.fnExactLettersOf
