/-
  The law FnExactDropWaiting at every input: the call returns true and each argument reads as it read before. The listed variables read as laid: the tied card.
-/
import Derived.Test.YtimhnkpccbcohaaGreatDoorLawDropW
import Derived.Test.YtimhnkpccbcohaaGreatDoorCardL
import Derived.Test.YtimhnkpccbcohaaGreatDoorHead
import Derived.Test.YtimhnkpccbcohaaGreatDoorOpenX
import Derived.ProofKit
import Derived.OpenShut
import Derived.ShutString
import Derived.ChangeOld
import Derived.Below
import Derived.SevenTiedAt
namespace Go.Proofs.YtimhnkpccbcohaaGreatDoor.fnExactDropWaiting
open Go.ChangeShapes Go.WideShapes Go.ChangeAt Go.RowKit
open Go.ChangeMaps (open_string shut_string)
set_option linter.unusedVariables false

theorem own : ownKnob Tryz.prog.godebug = none := by kernel_rfl
theorem laidOut : laidOutB Tryz.prog = true := by kernel_rfl

set_option maxRecDepth 100000 in
theorem lifted (os : Os) (started : os.Started) (H : Type) (enc : TypeId × Value → H) :
    ReturnsInHanded {} Tryz.checked os 3 .any (fun w args => (Rows.fnExactDropWaitingSpec.pre enc Tryz.prog Tryz.f3 Rows.fnExactDropWaitingRow.domain false w args ∧ laidMetH Tryz.prog Rows.fnExactDropWaitingRow.laid w) ∧ sizedMet enc Tryz.prog Tryz.f3 (OpenSpec.ofChange Rows.fnExactDropWaitingSpec) false w args) (Rows.fnExactDropWaitingSpec.post enc Tryz.prog Tryz.f3 false true false false) := by
  refine returnsInHanded_of_change_and (C := Tryz.checked) (X := fun w _ => laidMetH Tryz.prog Rows.fnExactDropWaitingRow.laid w) (fun _ _ _ hh h => h.of_heap hh) own started (by kernel_rfl) Tryz.func3
    (ChangeSpec.witness_at (enc := enc) (C := Tryz.checked) (os := os) (X := fun w _ => laidMetH Tryz.prog Rows.fnExactDropWaitingRow.laid w) false (CardL.laidWorld os) #[.agg #[.string ByteArray.empty, .slice none 0 0, .slice none 0 0, .slice none 0 0, .int .i64 0, .int .i64 0, .int .i64 0, .int .i64 0, .slice none 0 0, .slice none 0 0], .int .i64 0] 8 rfl (by kernel_rfl) (by kernel_rfl) (by kernel_rfl) (by kernel_rfl) (by kernel_rfl) (CardL.metDrop os _)) ?_
  intro W base args ds gs before hval0 hW hcnd _ hL _
  have hval : ∀ (j : Nat) t v, Tryz.f3.params[j]? = some t → args[j]? = some v → Value.okWide Tryz.prog W .any base t v := hval0
  have hW' := hW
  obtain ⟨p, q, hA0, hV0, rfl, hfz, hnd⟩ := hW
  have hV : DataW.TrodVars enc Tryz.prog W (fun _ => true) ["loop.example/g03230/impl.errFull"] gs q := hV0
  have hA : DataW.TrodAll enc Tryz.prog W 0 (fun _ => true) true Tryz.f3.params.toList args.toList ds p := hA0
  rw [Tryz.params3] at hA hval
  obtain ⟨v0, vs0, d0, ds0, p0, q0, hargs, rfl, rfl, h0, r0⟩ := trodAll_cons hA
  obtain ⟨v1, vs1, d1, ds1, p1, q1, rfl, rfl, rfl, h1, r1⟩ := trodAll_cons r0
  obtain ⟨rfl, rfl, rfl⟩ := trodAll_nil r1
  obtain rfl : args = #[v0, v1] := by cases args; simp_all
  have hL' : laidMet Tryz.prog [("loop.example/g03230/impl.errFull", Rows.laid_loop_example_g03230_impl_errFull)] W := hL
  obtain ⟨b0, s0, hv_errFull, -⟩ := laid_sentinel hL' CardL.errFull CardL.errFullT Tryz.underlying87 CardL.strRow Tryz.underlying192 Tryz.underlying215 rfl rfl Tryz.underlying9 (by kernel_rfl) (by kernel_rfl)
  have hg : W.cell? ⟨0, 0, none⟩ = some (.iface 192 (.pointer (some b0))) := by simpa using World.var?_cell CardL.errFull hv_errFull 0
  obtain ⟨rfl, rfl⟩ := hV.unique (CardL.readC enc CardL.errFull CardL.errFullT hv_errFull trivial (CardL.read0 enc _))
  have k0 := h0
  have lt0 : ∀ x ∈ p0, x.block < W.heap.size := by obtain ⟨m, hm⟩ := k0; exact DataW.trod_lt m _ _ _ hm
  obtain ⟨X0, w0, wf0⟩ := openMach (hval 0 30 v0 rfl rfl) h0
  obtain ⟨a1, rfl, rfl, rfl, w1⟩ := open_int Tryz.underlying3 (hval 1 3 v1 rfl rfl) h1
  clear hA0 hval0 hV0 hL hL'
  refine (fnExactDropWaiting_walk 0 W.heap.size v0 X0 a1 W w0 (Nat.le_refl _) wf0 w1 b0 hg).mono fun e W' ⟨he, bel⟩ => ?_
  subst he
  exact ⟨_, rfl, _, _, _, [], _, [.cell 0 0], hW', trodAll_mk1 (shut_bool Tryz.underlying4 _), (trodAll_cons_mk (Below.trod laidOut (by kernel_rfl) (of_decide_eq_true (by kernel_rfl)) k0 bel lt0) (trodAll_cons_mk (shut_int Tryz.underlying3 w1) trodAll_mk0)), CardL.readC enc CardL.errFull CardL.errFullT (CardL.var_below bel hv_errFull) trivial (CardL.read0 enc _), bel.frame _, fun h => by cases h⟩

theorem f_inPlace : Tryz.prog.inPlace 3 = Rows.fnExactDropWaitingRow.inPlace := by kernel_rfl
theorem f_unfollowed : Tryz.prog.unfollowed 3 = Rows.fnExactDropWaitingRow.unfollowed := by kernel_rfl
theorem f_recurses : Tryz.prog.recurses 3 = Rows.fnExactDropWaitingRow.recurses := by kernel_rfl
theorem f_named : Tryz.prog.varsNamed 3 = Rows.fnExactDropWaitingRow.named := by kernel_rfl
theorem closed : joinedFacts Tryz.prog 3 Tryz.f3 Rows.fnExactDropWaitingSpec Rows.fnExactDropWaitingRow = true := by
  rw [joinedFacts, mayEnter, liftsFinal, make, f_inPlace, f_unfollowed, f_recurses, f_named]
  kernel_rfl
theorem over : Rows.fnExactDropWaitingRow.holds Tryz.pinned (OpenSpec.ofChange Rows.fnExactDropWaitingSpec) :=
  OpenClaim.holds_of_wide 3 Tryz.f3 rfl rfl rfl rfl rfl rfl rfl ⟨rfl, rfl, rfl, rfl, rfl⟩ rfl rfl rfl rfl rfl (by kernel_rfl) Tryz.func3 closed
    (of_decide_eq_true (by kernel_rfl)) (by unfold Func.isWrapper; first | (rw [if_pos (by decide +kernel)]; kernel_rfl) | (rw [if_neg (by decide +kernel)]; exact ⟨rfl, rfl⟩))
    (fun os started H enc _ => lifted os started H enc)

theorem proved : Rows.FnExactDropWaitingCardSaid :=
  Claim7.holds_tied_plain_at .later [] [.sentinel] true (true, "a1268c2cf0564d4868527c63b4e324605ef11df2c7d321a8a99f62c6c819bc97") true
    over (fun _ h => by cases h) (by kernel_rfl) (fun _ h => by cases h) fnExactDropWaiting_row_tie rfl ⟨rfl, rfl⟩ (by kernel_rfl) rfl
    (fun f fn hf hfn => by
      obtain rfl : f = 3 := Option.some.inj ((show Tryz.prog.funcNamed "loop.example/g03230/laws.FnExactDropWaiting" = some 3 by kernel_rfl).symm.trans hf) |>.symm
      obtain rfl : fn = Tryz.f3 := (Option.some.inj (Tryz.func3.symm.trans hfn)).symm
      exact ⟨by kernel_rfl, fun j t ht => by
        rw [Tryz.params3] at ht
        have h3 : t = 30 ∨ t = 3 := by
          rcases j with _ | _ | j
          all_goals simp at ht
          all_goals simp [← ht]
        rcases h3 with rfl | rfl
        · exact (show Tryz.prog.wantsStandIn 30 = false by kernel_rfl)
        · exact (show Tryz.prog.wantsStandIn 3 = false by kernel_rfl)⟩)
    (by kernel_rfl)
end Go.Proofs.YtimhnkpccbcohaaGreatDoor.fnExactDropWaiting
