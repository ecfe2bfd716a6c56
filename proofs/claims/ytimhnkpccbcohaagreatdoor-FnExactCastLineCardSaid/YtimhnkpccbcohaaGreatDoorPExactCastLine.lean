/-
  The law FnExactCastLine at every input: the call returns true and each argument reads as it read before. The listed variables read as laid: the tied card.
-/
import Derived.Test.YtimhnkpccbcohaaGreatDoorLawCast
import Derived.Test.YtimhnkpccbcohaaGreatDoorCardL
import Derived.Test.YtimhnkpccbcohaaGreatDoorHead
import Derived.Test.YtimhnkpccbcohaaGreatDoorOpenX
import Derived.ProofKit
import Derived.OpenShut
import Derived.ShutString
import Derived.ChangeOld
import Derived.Below
import Derived.SevenTiedAt
namespace Go.Proofs.YtimhnkpccbcohaaGreatDoor.fnExactCastLine
open Go.ChangeShapes Go.WideShapes Go.ChangeAt Go.RowKit
open Go.ChangeMaps (open_string shut_string)
set_option linter.unusedVariables false

theorem own : ownKnob Tryz.prog.godebug = none := by kernel_rfl
theorem laidOut : laidOutB Tryz.prog = true := by kernel_rfl

set_option maxRecDepth 100000 in
theorem lifted (os : Os) (started : os.Started) (H : Type) (enc : TypeId × Value → H) :
    ReturnsInHanded {} Tryz.checked os 4 .any (fun w args => (Rows.fnExactCastLineSpec.pre enc Tryz.prog Tryz.f4 Rows.fnExactCastLineRow.domain false w args ∧ laidMetH Tryz.prog Rows.fnExactCastLineRow.laid w) ∧ sizedMet enc Tryz.prog Tryz.f4 (OpenSpec.ofChange Rows.fnExactCastLineSpec) false w args) (Rows.fnExactCastLineSpec.post enc Tryz.prog Tryz.f4 false true false false) := by
  refine returnsInHanded_of_change_and (C := Tryz.checked) (X := fun w _ => laidMetH Tryz.prog Rows.fnExactCastLineRow.laid w) (fun _ _ _ hh h => h.of_heap hh) own started (by kernel_rfl) Tryz.func4
    (ChangeSpec.witness_at (enc := enc) (C := Tryz.checked) (os := os) (X := fun w _ => laidMetH Tryz.prog Rows.fnExactCastLineRow.laid w) false (CardL.laidWorld os) #[.agg #[.string ByteArray.empty, .slice none 0 0, .slice none 0 0, .slice none 0 0, .int .i64 0, .int .i64 0, .int .i64 0, .int .i64 0, .slice none 0 0, .slice none 0 0], .bool false] 8 rfl (by kernel_rfl) (by kernel_rfl) (by kernel_rfl) (by kernel_rfl) (by kernel_rfl) (CardL.metCast os _)) ?_
  intro W base args ds gs before hval0 hW hcnd _ hL _
  have hval : ∀ (j : Nat) t v, Tryz.f4.params[j]? = some t → args[j]? = some v → Value.okWide Tryz.prog W .any base t v := hval0
  have hW' := hW
  obtain ⟨p, q, hA0, hV0, rfl, hfz, hnd⟩ := hW
  have hV : DataW.TrodVars enc Tryz.prog W (fun _ => true) ["loop.example/g03230/impl.errLoose", "loop.example/g03230/impl.errNoItems", "loop.example/g03230/impl.errTooMany"] gs q := hV0
  have hA : DataW.TrodAll enc Tryz.prog W 0 (fun _ => true) true Tryz.f4.params.toList args.toList ds p := hA0
  rw [Tryz.params4] at hA hval
  obtain ⟨v0, vs0, d0, ds0, p0, q0, hargs, rfl, rfl, h0, r0⟩ := trodAll_cons hA
  obtain ⟨v1, vs1, d1, ds1, p1, q1, rfl, rfl, rfl, h1, r1⟩ := trodAll_cons r0
  obtain ⟨rfl, rfl, rfl⟩ := trodAll_nil r1
  obtain rfl : args = #[v0, v1] := by cases args; simp_all
  have hL' : laidMet Tryz.prog [("loop.example/g03230/impl.errNoItems", Rows.laid_loop_example_g03230_impl_errNoItems), ("loop.example/g03230/impl.errLoose", Rows.laid_loop_example_g03230_impl_errLoose), ("loop.example/g03230/impl.errTooMany", Rows.laid_loop_example_g03230_impl_errTooMany)] W := hL
  obtain ⟨b0, b1, s0, s1, cc0, cc1, tt0, tt1, hv_errNoItems, hv_errLoose, -, -, -, -, -, -, hne, hb0, hb1⟩ := laid_sentinels2 hL' CardL.errNoItems CardL.errNoItemsT CardL.errLoose CardL.errLooseT Tryz.underlying87 CardL.strRow Tryz.underlying192 Tryz.underlying215 rfl rfl Tryz.underlying9 (by kernel_rfl) (by kernel_rfl)
  obtain ⟨ct, cu, hv_errTooMany⟩ := CardL.sent CardL.errTooMany CardL.errTooManyT hL'.tail.tail
  have hg1 : W.cell? ⟨3, 0, none⟩ = some (.iface 192 (.pointer (some b0))) := by simpa using World.var?_cell CardL.errNoItems hv_errNoItems 0
  have hg2 : W.cell? ⟨1, 0, none⟩ = some (.iface 192 (.pointer (some b1))) := by simpa using World.var?_cell CardL.errLoose hv_errLoose 0
  have hg3 : W.cell? ⟨4, 0, none⟩ = some (.iface ct cu) := by simpa using World.var?_cell CardL.errTooMany hv_errTooMany 0
  obtain ⟨rfl, rfl⟩ := hV.unique (CardL.readC enc CardL.errLoose CardL.errLooseT hv_errLoose trivial (CardL.readC enc CardL.errNoItems CardL.errNoItemsT hv_errNoItems trivial (CardL.readC enc CardL.errTooMany CardL.errTooManyT hv_errTooMany trivial (CardL.read0 enc _))))
  have k0 := h0
  have lt0 : ∀ x ∈ p0, x.block < W.heap.size := by obtain ⟨m, hm⟩ := k0; exact DataW.trod_lt m _ _ _ hm
  obtain ⟨X0, w0, wf0⟩ := openMach (hval 0 30 v0 rfl rfl) h0
  obtain ⟨a1, rfl, rfl, rfl⟩ := open_bool Tryz.underlying4 (hval 1 4 v1 rfl rfl) h1
  clear hA0 hval0 hV0 hL hL'
  refine (fnExactCastLine_walk 0 W.heap.size v0 X0 a1 W w0 (Nat.le_refl _) wf0 b0 b1 cc0 cc1 tt0 tt1 hne hb0 hb1 hg1 hg2 ct cu hg3).mono fun e W' ⟨he, bel⟩ => ?_
  subst he
  exact ⟨_, rfl, _, _, _, [], _, [.cell 1 0, .cell 3 0, .cell 4 0], hW', trodAll_mk1 (shut_bool Tryz.underlying4 _), (trodAll_cons_mk (Below.trod laidOut (by kernel_rfl) (of_decide_eq_true (by kernel_rfl)) k0 bel lt0) (trodAll_cons_mk (shut_bool Tryz.underlying4 a1) trodAll_mk0)), CardL.readC enc CardL.errLoose CardL.errLooseT (CardL.var_below bel hv_errLoose) trivial (CardL.readC enc CardL.errNoItems CardL.errNoItemsT (CardL.var_below bel hv_errNoItems) trivial (CardL.readC enc CardL.errTooMany CardL.errTooManyT (CardL.var_below bel hv_errTooMany) trivial (CardL.read0 enc _))), bel.frame _, fun h => by cases h⟩

theorem f_inPlace : Tryz.prog.inPlace 4 = Rows.fnExactCastLineRow.inPlace := by kernel_rfl
theorem f_unfollowed : Tryz.prog.unfollowed 4 = Rows.fnExactCastLineRow.unfollowed := by kernel_rfl
theorem f_recurses : Tryz.prog.recurses 4 = Rows.fnExactCastLineRow.recurses := by kernel_rfl
theorem f_named : Tryz.prog.varsNamed 4 = Rows.fnExactCastLineRow.named := by kernel_rfl
theorem closed : joinedFacts Tryz.prog 4 Tryz.f4 Rows.fnExactCastLineSpec Rows.fnExactCastLineRow = true := by
  rw [joinedFacts, mayEnter, liftsFinal, make, f_inPlace, f_unfollowed, f_recurses, f_named]
  kernel_rfl
theorem over : Rows.fnExactCastLineRow.holds Tryz.pinned (OpenSpec.ofChange Rows.fnExactCastLineSpec) :=
  OpenClaim.holds_of_wide 4 Tryz.f4 rfl rfl rfl rfl rfl rfl rfl ⟨rfl, rfl, rfl, rfl, rfl⟩ rfl rfl rfl rfl rfl (by kernel_rfl) Tryz.func4 closed
    (of_decide_eq_true (by kernel_rfl)) (by unfold Func.isWrapper; first | (rw [if_pos (by decide +kernel)]; kernel_rfl) | (rw [if_neg (by decide +kernel)]; exact ⟨rfl, rfl⟩))
    (fun os started H enc _ => lifted os started H enc)

theorem proved : Rows.FnExactCastLineCardSaid :=
  Claim7.holds_tied_plain_at .later [] [.sentinel, .sentinel, .sentinel] true (true, "a1268c2cf0564d4868527c63b4e324605ef11df2c7d321a8a99f62c6c819bc97") true
    over (fun _ h => by cases h) (by kernel_rfl) (fun _ h => by cases h) fnExactCastLine_row_tie rfl ⟨rfl, rfl⟩ (by kernel_rfl) rfl
    (fun f fn hf hfn => by
      obtain rfl : f = 4 := Option.some.inj ((show Tryz.prog.funcNamed "loop.example/g03230/laws.FnExactCastLine" = some 4 by kernel_rfl).symm.trans hf) |>.symm
      obtain rfl : fn = Tryz.f4 := (Option.some.inj (Tryz.func4.symm.trans hfn)).symm
      exact ⟨by kernel_rfl, fun j t ht => by
        rw [Tryz.params4] at ht
        have h3 : t = 30 ∨ t = 4 := by
          rcases j with _ | _ | j
          all_goals simp at ht
          all_goals simp [← ht]
        rcases h3 with rfl | rfl
        · exact (show Tryz.prog.wantsStandIn 30 = false by kernel_rfl)
        · exact (show Tryz.prog.wantsStandIn 4 = false by kernel_rfl)⟩)
    (by kernel_rfl)
end Go.Proofs.YtimhnkpccbcohaaGreatDoor.fnExactCastLine
