/-
  The law FnExactCountAll at every input: the call returns true and each argument reads as it read before. No condition.
-/
import Derived.Test.YthoepelgmplcmaaLawsAll
import Derived.Test.YthoepelgmplcmaaHead
import Derived.Test.YthoepelgmplcmaaOpenX
import Derived.ProofKit
import Derived.OpenShut
import Derived.ShutString
import Derived.ChangeOld
import Derived.Below
namespace Go.Proofs.Ythoepelgmplcmaa.fnExactCountAll
open Go.ChangeShapes Go.WideShapes Go.ChangeAt Go.RowKit
open Go.ChangeMaps (open_string shut_string)
set_option linter.unusedVariables false

theorem own : ownKnob Try.prog.godebug = none := by kernel_rfl
theorem laidOut : laidOutB Try.prog = true := by kernel_rfl

set_option maxRecDepth 100000 in
theorem lifted (os : Os) (started : os.Started) (H : Type) (enc : TypeId × Value → H) :
    ReturnsInHanded {} Try.checked os 11 .any (Rows.fnExactCountAllSpec.pre6 enc Try.prog Try.f11 Rows.fnExactCountAllRow.domain false) (Rows.fnExactCountAllSpec.post enc Try.prog Try.f11 false true false false) := by
  refine returnsInHanded_of_change (C := Try.checked) own started (by kernel_rfl) Try.func11
    (ChangeSpec.witness6 (enc := enc) (C := Try.checked) false ⟨#[], #[.agg #[.string ByteArray.empty, .slice none 0 0, .slice none 0 0, .slice none 0 0, .int .i64 0, .int .i64 0, .int .i64 0, .int .i64 0, .slice none 0 0, .slice none 0 0]], []⟩ 8 (by kernel_rfl) (by kernel_rfl) (by kernel_rfl) (by kernel_rfl)) ?_
  intro W base args ds gs before hval0 hW hcnd _
  have hval : ∀ (j : Nat) t v, Try.f11.params[j]? = some t → args[j]? = some v → Value.okWide Try.prog W .any base t v := hval0
  have hW' := hW
  obtain ⟨p, q, hA0, hV, rfl, hfz, hnd⟩ := hW
  have hA : DataW.TrodAll enc Try.prog W 0 (fun _ => true) true Try.f11.params.toList args.toList ds p := hA0
  rw [Try.params11] at hA hval
  obtain ⟨v0, vs0, d0, ds0, p0, q0, hargs, rfl, rfl, h0, r0⟩ := trodAll_cons hA
  obtain ⟨rfl, rfl, rfl⟩ := trodAll_nil r0
  obtain rfl : args = #[v0] := by cases args; simp_all
  obtain ⟨rfl, rfl⟩ := trodVars_none hV
  have k0 := h0
  have lt0 : ∀ x ∈ p0, x.block < W.heap.size := by obtain ⟨m, hm⟩ := k0; exact DataW.trod_lt m _ _ _ hm
  obtain ⟨X0, w0, wf0⟩ := openMach (hval 0 56 v0 rfl rfl) h0
  clear hA0 hval0
  refine (fnExactCountAll_walk 0 W.heap.size v0 X0 W w0 (Nat.le_refl _) wf0).mono fun e W' ⟨he, bel⟩ => ?_
  subst he
  exact ⟨_, rfl, _, _, _, [], _, [], hW', trodAll_mk1 (shut_bool Try.underlying4 _), (trodAll_cons_mk (Below.trod laidOut (by kernel_rfl) (of_decide_eq_true (by kernel_rfl)) k0 bel lt0) trodAll_mk0), rfl, bel.frame _, fun h => by cases h⟩

theorem f_inPlace : Try.prog.inPlace 11 = Rows.fnExactCountAllRow.inPlace := by kernel_rfl
theorem f_unfollowed : Try.prog.unfollowed 11 = Rows.fnExactCountAllRow.unfollowed := by kernel_rfl
theorem f_recurses : Try.prog.recurses 11 = Rows.fnExactCountAllRow.recurses := by kernel_rfl
theorem f_named : Try.prog.varsNamed 11 = Rows.fnExactCountAllRow.named := by kernel_rfl
theorem closed : joinedFacts Try.prog 11 Try.f11 Rows.fnExactCountAllSpec Rows.fnExactCountAllRow = true := by
  rw [joinedFacts, mayEnter, liftsFinal, make, f_inPlace, f_unfollowed, f_recurses, f_named]
  kernel_rfl
theorem over : Rows.fnExactCountAllRow.holds Try.pinned (OpenSpec.ofChange Rows.fnExactCountAllSpec) :=
  OpenClaim.holds_of_wide 11 Try.f11 rfl rfl rfl rfl rfl rfl rfl ⟨rfl, rfl, rfl, rfl, rfl⟩ rfl rfl rfl rfl rfl (by kernel_rfl) Try.func11 closed
    (of_decide_eq_true (by kernel_rfl)) (by unfold Func.isWrapper; first | (rw [if_pos (by decide +kernel)]; kernel_rfl) | (rw [if_neg (by decide +kernel)]; exact ⟨rfl, rfl⟩))
    (fun os started H enc _ => lifted os started H enc)

theorem proved : Rows.FnExactCountAllSaid := over
end Go.Proofs.Ythoepelgmplcmaa.fnExactCountAll
