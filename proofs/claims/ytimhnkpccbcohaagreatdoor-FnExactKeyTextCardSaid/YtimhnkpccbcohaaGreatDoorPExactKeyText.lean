/-
  The law FnExactKeyText at every input: the call returns true and each argument reads as it read before. The listed variables read as laid: the tied card.
-/
import Derived.Test.YtimhnkpccbcohaaGreatDoorPkN
import Derived.Test.YtimhnkpccbcohaaGreatDoorCardL
import Derived.Test.YtimhnkpccbcohaaGreatDoorCardH
import Derived.Test.YtimhnkpccbcohaaGreatDoorHead
import Derived.Test.YtimhnkpccbcohaaGreatDoorOpenX
import Derived.ProofKit
import Derived.OpenShut
import Derived.ShutString
import Derived.ChangeOld
import Derived.Below
import Derived.SevenTiedAt
namespace Go.Proofs.YtimhnkpccbcohaaGreatDoor.fnExactKeyText
open Go.ChangeShapes Go.WideShapes Go.ChangeAt Go.RowKit
open Go.ChangeMaps (open_string shut_string)
set_option linter.unusedVariables false

theorem own : ownKnob Tryz.prog.godebug = none := by kernel_rfl
theorem laidOut : laidOutB Tryz.prog = true := by kernel_rfl

set_option maxRecDepth 100000 in
theorem lifted (os : Os) (started : os.Started) (H : Type) (enc : TypeId × Value → H) :
    ReturnsInHanded {} Tryz.checked os 5 .any (fun w args => (Rows.fnExactKeyTextSpec.pre enc Tryz.prog Tryz.f5 Rows.fnExactKeyTextRow.domain false w args ∧ laidMetH Tryz.prog Rows.fnExactKeyTextRow.laid w) ∧ sizedMet enc Tryz.prog Tryz.f5 (OpenSpec.ofChange Rows.fnExactKeyTextSpec) false w args) (Rows.fnExactKeyTextSpec.post enc Tryz.prog Tryz.f5 false true false false) := by
  refine returnsInHanded_of_change_and (C := Tryz.checked) (X := fun w _ => laidMetH Tryz.prog Rows.fnExactKeyTextRow.laid w) (fun _ _ _ hh h => h.of_heap hh) own started (by kernel_rfl) Tryz.func5
    (ChangeSpec.witness_at (enc := enc) (C := Tryz.checked) (os := os) (X := fun w _ => laidMetH Tryz.prog Rows.fnExactKeyTextRow.laid w) false (CardH.laidWorld os) #[.agg #[.string ByteArray.empty, .slice none 0 0, .slice none 0 0, .slice none 0 0, .int .i64 0, .int .i64 0, .int .i64 0, .int .i64 0, .slice none 0 0, .slice none 0 0], .string ByteArray.empty] 8 rfl (by kernel_rfl) (by kernel_rfl) (by kernel_rfl) (by kernel_rfl) (by kernel_rfl) (CardH.metKey os _)) ?_
  intro W base args ds gs before hval0 hW hcnd _ hL _
  have hval : ∀ (j : Nat) t v, Tryz.f5.params[j]? = some t → args[j]? = some v → Value.okWide Tryz.prog W .any base t v := hval0
  have hW' := hW
  obtain ⟨p, q, hA0, hV0, rfl, hfz, hnd⟩ := hW
  have hV : DataW.TrodVars enc Tryz.prog W (fun _ => true) ["loop.example/g03230/impl.errNoKey", "loop.example/g03230/impl.errNoBand", "loop.example/g03230/impl.errNoFit", "loop.example/g03230/impl.errEmpty"] gs q := hV0
  have hA : DataW.TrodAll enc Tryz.prog W 0 (fun _ => true) true Tryz.f5.params.toList args.toList ds p := hA0
  rw [Tryz.params5] at hA hval
  obtain ⟨v0, vs0, d0, ds0, p0, q0, hargs, rfl, rfl, h0, r0⟩ := trodAll_cons hA
  obtain ⟨v1, vs1, d1, ds1, p1, q1, rfl, rfl, rfl, h1, r1⟩ := trodAll_cons r0
  obtain ⟨rfl, rfl, rfl⟩ := trodAll_nil r1
  obtain rfl : args = #[v0, v1] := by cases args; simp_all
  have hL' : laidMet Tryz.prog [("loop.example/g03230/impl.errEmpty", Rows.laid_loop_example_g03230_impl_errEmpty), ("loop.example/g03230/impl.errNoKey", Rows.laid_loop_example_g03230_impl_errNoKey), ("loop.example/g03230/impl.errNoBand", Rows.laid_loop_example_g03230_impl_errNoBand), ("loop.example/g03230/impl.errNoFit", Rows.laid_loop_example_g03230_impl_errNoFit)] W ∧ handlesMet Tryz.prog [("errors.errorType", Rows.laid_errors_errorType)] W := hL
  obtain ⟨te, ue, hv_errEmpty⟩ := CardL.sent CardL.errEmpty CardL.errEmptyT hL'.1
  obtain ⟨tk, uk, hv_errNoKey⟩ := CardL.sent CardL.errNoKey CardL.errNoKeyT hL'.1.tail
  obtain ⟨tb, ub, hv_errNoBand⟩ := CardL.sent CardL.errNoBand CardL.errNoBandT hL'.1.tail.tail
  obtain ⟨tf, uf, hv_errNoFit⟩ := CardL.sent CardL.errNoFit CardL.errNoFitT hL'.1.tail.tail.tail
  have hgf : W.cell? ⟨7, 0, none⟩ = some (.iface tf uf) := by simpa using World.var?_cell CardL.errNoFit hv_errNoFit 0
  have hgb : W.cell? ⟨6, 0, none⟩ = some (.iface tb ub) := by simpa using World.var?_cell CardL.errNoBand hv_errNoBand 0
  have hge : W.cell? ⟨8, 0, none⟩ = some (.iface te ue) := by simpa using World.var?_cell CardL.errEmpty hv_errEmpty 0
  have hgk : W.cell? ⟨5, 0, none⟩ = some (.iface tk uk) := by simpa using World.var?_cell CardL.errNoKey hv_errNoKey 0
  have hErr : ErrsAt W W.heap.size ⟨tf, uf, tb, ub, te, ue, tk, uk⟩ := ⟨hgf, hgb, hge, hgk, World.block_lt_of_cell? _ _ hgf, World.block_lt_of_cell? _ _ hgb, World.block_lt_of_cell? _ _ hge, World.block_lt_of_cell? _ _ hgk⟩
  have hHan := CardH.handle hL'.2
  obtain ⟨rfl, rfl⟩ := hV.unique (CardL.readC enc CardL.errNoKey CardL.errNoKeyT hv_errNoKey trivial (CardL.readC enc CardL.errNoBand CardL.errNoBandT hv_errNoBand trivial (CardL.readC enc CardL.errNoFit CardL.errNoFitT hv_errNoFit trivial (CardL.readC enc CardL.errEmpty CardL.errEmptyT hv_errEmpty trivial (CardL.read0 enc _)))))
  have k0 := h0
  have lt0 : ∀ x ∈ p0, x.block < W.heap.size := by obtain ⟨m, hm⟩ := k0; exact DataW.trod_lt m _ _ _ hm
  obtain ⟨X0, w0, wf0⟩ := openMach (hval 0 30 v0 rfl rfl) h0
  obtain ⟨a1, rfl, rfl, rfl, w1⟩ := open_string Tryz.underlying9 (hval 1 9 v1 rfl rfl) h1
  clear hA0 hval0 hV0 hL hL'
  refine (fnExactKeyText_walk 0 W.heap.size v0 X0 a1 W w0 (Nat.le_refl _) wf0 w1 ⟨tf, uf, tb, ub, te, ue, tk, uk⟩ hErr hHan).mono fun e W' ⟨he, bel⟩ => ?_
  subst he
  exact ⟨_, rfl, _, _, _, [], _, [.cell 5 0, .cell 6 0, .cell 7 0, .cell 8 0], hW', trodAll_mk1 (shut_bool Tryz.underlying4 _), (trodAll_cons_mk (Below.trod laidOut (by kernel_rfl) (of_decide_eq_true (by kernel_rfl)) k0 bel lt0) (trodAll_cons_mk (shut_string Tryz.underlying9 w1) trodAll_mk0)), CardL.readC enc CardL.errNoKey CardL.errNoKeyT (CardL.var_below bel hv_errNoKey) trivial (CardL.readC enc CardL.errNoBand CardL.errNoBandT (CardL.var_below bel hv_errNoBand) trivial (CardL.readC enc CardL.errNoFit CardL.errNoFitT (CardL.var_below bel hv_errNoFit) trivial (CardL.readC enc CardL.errEmpty CardL.errEmptyT (CardL.var_below bel hv_errEmpty) trivial (CardL.read0 enc _)))), bel.frame _, fun h => by cases h⟩

theorem f_inPlace : Tryz.prog.inPlace 5 = Rows.fnExactKeyTextRow.inPlace := by kernel_rfl
theorem f_unfollowed : Tryz.prog.unfollowed 5 = Rows.fnExactKeyTextRow.unfollowed := by kernel_rfl
theorem f_recurses : Tryz.prog.recurses 5 = Rows.fnExactKeyTextRow.recurses := by kernel_rfl
theorem f_named : Tryz.prog.varsNamed 5 = Rows.fnExactKeyTextRow.named := by kernel_rfl
theorem closed : joinedFacts Tryz.prog 5 Tryz.f5 Rows.fnExactKeyTextSpec Rows.fnExactKeyTextRow = true := by
  rw [joinedFacts, mayEnter, liftsFinal, make, f_inPlace, f_unfollowed, f_recurses, f_named]
  kernel_rfl
theorem over : Rows.fnExactKeyTextRow.holds Tryz.pinned (OpenSpec.ofChange Rows.fnExactKeyTextSpec) :=
  OpenClaim.holds_of_wide 5 Tryz.f5 rfl rfl rfl rfl rfl rfl rfl ⟨rfl, rfl, rfl, rfl, rfl⟩ rfl rfl rfl rfl rfl (by kernel_rfl) Tryz.func5 closed
    (of_decide_eq_true (by kernel_rfl)) (by unfold Func.isWrapper; first | (rw [if_pos (by decide +kernel)]; kernel_rfl) | (rw [if_neg (by decide +kernel)]; exact ⟨rfl, rfl⟩))
    (fun os started H enc _ => lifted os started H enc)

theorem proved : Rows.FnExactKeyTextCardSaid :=
  Claim7.holds_tied_plain_at .later [] [.handle, .sentinel, .sentinel, .sentinel, .sentinel] true (true, "a1268c2cf0564d4868527c63b4e324605ef11df2c7d321a8a99f62c6c819bc97") true
    over (fun _ h => by cases h) (by kernel_rfl) (fun _ h => by cases h) fnExactKeyText_row_tie rfl ⟨rfl, rfl⟩ (by kernel_rfl) rfl
    (fun f fn hf hfn => by
      obtain rfl : f = 5 := Option.some.inj ((show Tryz.prog.funcNamed "loop.example/g03230/laws.FnExactKeyText" = some 5 by kernel_rfl).symm.trans hf) |>.symm
      obtain rfl : fn = Tryz.f5 := (Option.some.inj (Tryz.func5.symm.trans hfn)).symm
      exact ⟨by kernel_rfl, fun j t ht => by
        rw [Tryz.params5] at ht
        have h3 : t = 30 ∨ t = 9 := by
          rcases j with _ | _ | j
          all_goals simp at ht
          all_goals simp [← ht]
        rcases h3 with rfl | rfl
        · exact (show Tryz.prog.wantsStandIn 30 = false by kernel_rfl)
        · exact (show Tryz.prog.wantsStandIn 9 = false by kernel_rfl)⟩)
    (by kernel_rfl)
end Go.Proofs.YtimhnkpccbcohaaGreatDoor.fnExactKeyText
