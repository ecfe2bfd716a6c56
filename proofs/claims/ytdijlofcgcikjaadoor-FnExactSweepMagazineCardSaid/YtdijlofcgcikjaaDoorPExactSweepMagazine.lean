/-
  The law FnExactSweepMagazine at every input: the call returns true and each argument reads as it read before. The listed variables read as laid: the tied card.
-/
import Derived.Test.YtdijlofcgcikjaaDoorLawSweep
import Derived.Test.YtdijlofcgcikjaaDoorCardK
import Derived.Test.YtdijlofcgcikjaaDoorHead
import Derived.Test.YtdijlofcgcikjaaDoorOpen
import Derived.ProofKit
import Derived.OpenShut
import Derived.ShutString
import Derived.ChangeOld
import Derived.Below
import Derived.SevenTiedAt
namespace Go.Proofs.YtdijlofcgcikjaaDoor.fnExactSweepMagazine
open Go.ChangeShapes Go.WideShapes Go.ChangeAt Go.RowKit
open Go.ChangeMaps (open_string shut_string)
set_option linter.unusedVariables false

theorem own : ownKnob Tryd.prog.godebug = none := by kernel_rfl
theorem laidOut : laidOutB Tryd.prog = true := by kernel_rfl

set_option maxRecDepth 100000 in
theorem lifted (os : Os) (started : os.Started) (H : Type) (enc : TypeId × Value → H) :
    ReturnsInHanded {} Tryd.checked os 7 .any (fun w args => (Rows.fnExactSweepMagazineSpec.pre enc Tryd.prog Tryd.f7 Rows.fnExactSweepMagazineRow.domain false w args ∧ laidMetH Tryd.prog Rows.fnExactSweepMagazineRow.laid w) ∧ sizedMet enc Tryd.prog Tryd.f7 (OpenSpec.ofChange Rows.fnExactSweepMagazineSpec) false w args) (Rows.fnExactSweepMagazineSpec.post enc Tryd.prog Tryd.f7 false true false false) := by
  refine returnsInHanded_of_change_and (C := Tryd.checked) (X := fun w _ => laidMetH Tryd.prog Rows.fnExactSweepMagazineRow.laid w) (fun _ _ _ hh h => h.of_heap hh) own started (by kernel_rfl) Tryd.func7
    (ChangeSpec.witness_at (enc := enc) (C := Tryd.checked) (os := os) (X := fun w _ => laidMetH Tryd.prog Rows.fnExactSweepMagazineRow.laid w) false (CardK.laidWorld os) #[.agg #[.string ByteArray.empty, .slice none 0 0, .slice none 0 0], .slice none 0 0] 8 rfl (by kernel_rfl) (by kernel_rfl) (by kernel_rfl) (by kernel_rfl) (by kernel_rfl) (CardK.metF os _)) ?_
  intro W base args ds gs before hval0 hW hcnd _ hL _
  have hval : ∀ (j : Nat) t v, Tryd.f7.params[j]? = some t → args[j]? = some v → Value.okWide Tryd.prog W .any base t v := hval0
  have hW' := hW
  obtain ⟨p, q, hA0, hV0, rfl, hfz, hnd⟩ := hW
  have hV : DataW.TrodVars enc Tryd.prog W (fun _ => true) ["loop.example/g03230/impl.errFull"] gs q := hV0
  have hA : DataW.TrodAll enc Tryd.prog W 0 (fun _ => true) true Tryd.f7.params.toList args.toList ds p := hA0
  rw [Tryd.params7] at hA hval
  obtain ⟨v0, vs0, d0, ds0, p0, q0, hargs, rfl, rfl, h0, r0⟩ := trodAll_cons hA
  obtain ⟨v1, vs1, d1, ds1, p1, q1, rfl, rfl, rfl, h1, r1⟩ := trodAll_cons r0
  obtain ⟨rfl, rfl, rfl⟩ := trodAll_nil r1
  obtain rfl : args = #[v0, v1] := by cases args; simp_all
  have hL' : laidMet Tryd.prog [("loop.example/g03230/impl.errFull", Rows.laid_loop_example_g03230_impl_errFull)] W ∧ handlesMet Tryd.prog [("errors.errorType", Rows.laid_errors_errorType)] W := hL
  have hE := CardK.handle hL'.2
  obtain ⟨ct, cu, hv⟩ := CardK.sent CardK.fu CardK.fuType hL'.1
  obtain ⟨rfl, rfl⟩ := hV.unique (CardK.read1 enc CardK.fu CardK.fuType hv trivial _)
  have hg : W.cell? ⟨2, 0, none⟩ = some (.iface ct cu) := by simpa using World.var?_cell CardK.fu hv 0
  have k0 := h0
  have lt0 : ∀ x ∈ p0, x.block < W.heap.size := by obtain ⟨m, hm⟩ := k0; exact DataW.trod_lt m _ _ _ hm
  obtain ⟨f0, w0⟩ := openFont (hval 0 47 v0 rfl rfl) h0
  have k1 := h1
  have lt1 : ∀ x ∈ p1, x.block < W.heap.size := by obtain ⟨m, hm⟩ := k1; exact DataW.trod_lt m _ _ _ hm
  obtain ⟨a1, c1, z1, rfl, hc1, hm1, w1, wf1⟩ := openMag (hval 1 48 v1 rfl rfl) h1
  clear hA0 hval0 hV0 hL hL'
  refine (fnExactSweepMagazine_walk 0 W.heap.size v0 f0 0 W.heap.size a1 c1 z1 W w0 (Nat.le_refl _) hc1 hm1 w1 (Nat.le_refl _) wf1 ct cu hg hE).mono fun e W' ⟨he, bel⟩ => ?_
  subst he
  exact ⟨_, rfl, _, _, _, [], _, [.cell 2 0], hW', trodAll_mk1 (shut_bool Tryd.underlying4 _), (trodAll_cons_mk (Below.trod laidOut (by kernel_rfl) (of_decide_eq_true (by kernel_rfl)) k0 bel lt0) (trodAll_cons_mk (Below.trod laidOut (by kernel_rfl) (of_decide_eq_true (by kernel_rfl)) k1 bel lt1) trodAll_mk0)), CardK.read1 enc CardK.fu CardK.fuType (CardK.var_below bel hv) trivial _, bel.frame _, fun h => by cases h⟩

theorem f_inPlace : Tryd.prog.inPlace 7 = Rows.fnExactSweepMagazineRow.inPlace := by kernel_rfl
theorem f_unfollowed : Tryd.prog.unfollowed 7 = Rows.fnExactSweepMagazineRow.unfollowed := by kernel_rfl
theorem f_recurses : Tryd.prog.recurses 7 = Rows.fnExactSweepMagazineRow.recurses := by kernel_rfl
theorem f_named : Tryd.prog.varsNamed 7 = Rows.fnExactSweepMagazineRow.named := by kernel_rfl
theorem closed : joinedFacts Tryd.prog 7 Tryd.f7 Rows.fnExactSweepMagazineSpec Rows.fnExactSweepMagazineRow = true := by
  rw [joinedFacts, mayEnter, liftsFinal, make, f_inPlace, f_unfollowed, f_recurses, f_named]
  kernel_rfl
theorem over : Rows.fnExactSweepMagazineRow.holds Tryd.pinned (OpenSpec.ofChange Rows.fnExactSweepMagazineSpec) :=
  OpenClaim.holds_of_wide 7 Tryd.f7 rfl rfl rfl rfl rfl rfl rfl ⟨rfl, rfl, rfl, rfl, rfl⟩ rfl rfl rfl rfl rfl (by kernel_rfl) Tryd.func7 closed
    (of_decide_eq_true (by kernel_rfl)) (by unfold Func.isWrapper; first | (rw [if_pos (by decide +kernel)]; kernel_rfl) | (rw [if_neg (by decide +kernel)]; exact ⟨rfl, rfl⟩))
    (fun os started H enc _ => lifted os started H enc)

theorem proved : Rows.FnExactSweepMagazineCardSaid :=
  Claim7.holds_tied_plain_at .later [] [.handle, .sentinel] true (true, "eda066d298679ca481e033201bd2c9e12f72956716c69cbd346604faa8f50fc6") true
    over (fun _ h => by cases h) (by kernel_rfl) (fun _ h => by cases h) fnExactSweepMagazine_row_tie rfl ⟨rfl, rfl⟩ (by kernel_rfl) rfl
    (fun f fn hf hfn => by
      obtain rfl : f = 7 := Option.some.inj ((show Tryd.prog.funcNamed "loop.example/g03230/laws.FnExactSweepMagazine" = some 7 by kernel_rfl).symm.trans hf) |>.symm
      obtain rfl : fn = Tryd.f7 := (Option.some.inj (Tryd.func7.symm.trans hfn)).symm
      exact ⟨by kernel_rfl, fun j t ht => by
        rw [Tryd.params7] at ht
        have h3 : t = 47 ∨ t = 48 := by
          rcases j with _ | _ | j
          all_goals simp at ht
          all_goals simp [← ht]
        rcases h3 with rfl | rfl
        · exact (show Tryd.prog.wantsStandIn 47 = false by kernel_rfl)
        · exact (show Tryd.prog.wantsStandIn 48 = false by kernel_rfl)⟩)
    (by kernel_rfl)
end Go.Proofs.YtdijlofcgcikjaaDoor.fnExactSweepMagazine
