/-
  The law FnSwept at every input: the call returns true and each argument reads as it read before. The listed variables read as laid: the tied card.
-/
import Derived.Test.YtdijlofcgcikjaaDoorFnSwt
import Derived.Test.YtdijlofcgcikjaaDoorCardK
import Derived.Test.YtdijlofcgcikjaaDoorHead
import Derived.ProofKit
import Derived.OpenShut
import Derived.ShutString
import Derived.ChangeOld
import Derived.Below
import Derived.SevenTiedAt
namespace Go.Proofs.YtdijlofcgcikjaaDoor.fnSwept
open Go.ChangeShapes Go.WideShapes Go.ChangeAt Go.RowKit
open Go.ChangeMaps (open_string shut_string)
set_option linter.unusedVariables false

theorem own : ownKnob Tryd.prog.godebug = none := by kernel_rfl
theorem laidOut : laidOutB Tryd.prog = true := by kernel_rfl

set_option maxRecDepth 100000 in
theorem lifted (os : Os) (started : os.Started) (H : Type) (enc : TypeId × Value → H) :
    ReturnsInHanded {} Tryd.checked os 4 .any (fun w args => (Rows.fnSweptSpec.pre enc Tryd.prog Tryd.f4 Rows.fnSweptRow.domain false w args ∧ laidMetH Tryd.prog Rows.fnSweptRow.laid w) ∧ sizedMet enc Tryd.prog Tryd.f4 (OpenSpec.ofChange Rows.fnSweptSpec) false w args) (Rows.fnSweptSpec.post enc Tryd.prog Tryd.f4 false true false false) := by
  refine returnsInHanded_of_change_and (C := Tryd.checked) (X := fun w _ => laidMetH Tryd.prog Rows.fnSweptRow.laid w) (fun _ _ _ hh h => h.of_heap hh) own started (by kernel_rfl) Tryd.func4
    (ChangeSpec.witness_at (enc := enc) (C := Tryd.checked) (os := os) (X := fun w _ => laidMetH Tryd.prog Rows.fnSweptRow.laid w) false (CardK.laidWorld os) #[.slice none 0 0] 8 rfl (by kernel_rfl) (by kernel_rfl) (by kernel_rfl) (by kernel_rfl) (by kernel_rfl) (CardK.metF os _)) ?_
  intro W base args ds gs before hval0 hW hcnd _ hL _
  have hval : ∀ (j : Nat) t v, Tryd.f4.params[j]? = some t → args[j]? = some v → Value.okWide Tryd.prog W .any base t v := hval0
  have hW' := hW
  obtain ⟨p, q, hA0, hV0, rfl, hfz, hnd⟩ := hW
  have hV : DataW.TrodVars enc Tryd.prog W (fun _ => true) ["loop.example/g03230/impl.errFull"] gs q := hV0
  have hA : DataW.TrodAll enc Tryd.prog W 0 (fun _ => true) true Tryd.f4.params.toList args.toList ds p := hA0
  rw [Tryd.params4] at hA hval
  obtain ⟨v0, vs0, d0, ds0, p0, q0, hargs, rfl, rfl, h0, r0⟩ := trodAll_cons hA
  obtain ⟨rfl, rfl, rfl⟩ := trodAll_nil r0
  obtain rfl : args = #[v0] := by cases args; simp_all
  have hL' : laidMet Tryd.prog [("loop.example/g03230/impl.errFull", Rows.laid_loop_example_g03230_impl_errFull)] W ∧ handlesMet Tryd.prog [("errors.errorType", Rows.laid_errors_errorType)] W := hL
  have hE := CardK.handle hL'.2
  obtain ⟨ct, cu, hv⟩ := CardK.sent CardK.fu CardK.fuType hL'.1
  obtain ⟨rfl, rfl⟩ := hV.unique (CardK.read1 enc CardK.fu CardK.fuType hv trivial _)
  have hg : W.cell? ⟨2, 0, none⟩ = some (.iface ct cu) := by simpa using World.var?_cell CardK.fu hv 0
  obtain ⟨a0, len0, cap0, rfl⟩ := okWide_slice Tryd.underlying22 (hval 0 22 v0 rfl rfl)
  have k0 := h0
  have lt0 : ∀ x ∈ p0, x.block < W.heap.size := by obtain ⟨m, hm⟩ := k0; exact DataW.trod_lt m _ _ _ hm
  obtain ⟨z0, hl0, hm0, w0, wf0⟩ : ∃ zs : List Int, zs.length = len0 ∧ len0 ≤ maxLen ∧ Bytes W a0 zs ∧ ∀ n ∈ zs, (Lit.int .u8 n).wf = true := by
    obtain ⟨fuel, hf⟩ := h0
    rcases open_ints Tryd.underlying22 Tryd.underlying5 (by kernel_rfl) hf with ⟨hcs, _⟩ | ⟨x, l, c, zs, hcs, _, hl, hm, hz, _, hcell, hwz⟩
    · simp [Value.cells] at hcs
      obtain ⟨rfl, rfl, rfl⟩ := hcs
      exact ⟨[], rfl, Nat.zero_le _, Bytes.nil _ _, by simp⟩
    · simp [Value.cells] at hcs
      obtain ⟨rfl, rfl, rfl⟩ := hcs
      have hz' : zs.length = cap0 := by simpa using hz
      exact ⟨zs.take len0, by rw [List.length_take]; omega, Nat.le_trans hl hm, Bytes.of_row (by omega) hcell, fun n hn => hwz n (List.mem_of_mem_take hn)⟩
  clear hA0 hval0 hV0 hL hL'
  refine (fnSwept_walk a0 len0 cap0 z0 W hl0 hm0 w0 wf0 ct cu hg hE).mono fun e W' ⟨he, bel⟩ => ?_
  subst he
  exact ⟨_, rfl, _, _, _, [], _, [.cell 2 0], hW', trodAll_mk1 (shut_bool Tryd.underlying4 _), (trodAll_cons_mk (Below.trod laidOut (by kernel_rfl) (of_decide_eq_true (by kernel_rfl)) k0 bel lt0) trodAll_mk0), CardK.read1 enc CardK.fu CardK.fuType (CardK.var_below bel hv) trivial _, bel.frame _, fun h => by cases h⟩

theorem f_inPlace : Tryd.prog.inPlace 4 = Rows.fnSweptRow.inPlace := by kernel_rfl
theorem f_unfollowed : Tryd.prog.unfollowed 4 = Rows.fnSweptRow.unfollowed := by kernel_rfl
theorem f_recurses : Tryd.prog.recurses 4 = Rows.fnSweptRow.recurses := by kernel_rfl
theorem f_named : Tryd.prog.varsNamed 4 = Rows.fnSweptRow.named := by kernel_rfl
theorem closed : joinedFacts Tryd.prog 4 Tryd.f4 Rows.fnSweptSpec Rows.fnSweptRow = true := by
  rw [joinedFacts, mayEnter, liftsFinal, make, f_inPlace, f_unfollowed, f_recurses, f_named]
  kernel_rfl
theorem over : Rows.fnSweptRow.holds Tryd.pinned (OpenSpec.ofChange Rows.fnSweptSpec) :=
  OpenClaim.holds_of_wide 4 Tryd.f4 rfl rfl rfl rfl rfl rfl rfl ⟨rfl, rfl, rfl, rfl, rfl⟩ rfl rfl rfl rfl rfl (by kernel_rfl) Tryd.func4 closed
    (of_decide_eq_true (by kernel_rfl)) (by unfold Func.isWrapper; first | (rw [if_pos (by decide +kernel)]; kernel_rfl) | (rw [if_neg (by decide +kernel)]; exact ⟨rfl, rfl⟩))
    (fun os started H enc _ => lifted os started H enc)

theorem proved : Rows.FnSweptCardSaid :=
  Claim7.holds_tied_plain_at .later [] [.handle, .sentinel] true (true, "eda066d298679ca481e033201bd2c9e12f72956716c69cbd346604faa8f50fc6") true
    over (fun _ h => by cases h) (by kernel_rfl) (fun _ h => by cases h) fnSwept_row_tie rfl ⟨rfl, rfl⟩ (by kernel_rfl) rfl
    (fun f fn hf hfn => by
      obtain rfl : f = 4 := Option.some.inj ((show Tryd.prog.funcNamed "loop.example/g03230/laws.FnSwept" = some 4 by kernel_rfl).symm.trans hf) |>.symm
      obtain rfl : fn = Tryd.f4 := (Option.some.inj (Tryd.func4.symm.trans hfn)).symm
      exact ⟨by kernel_rfl, fun j t ht => by
        rw [Tryd.params4] at ht
        have h3 : t = 22 := by
          rcases j with _ | j
          all_goals simp at ht
          all_goals simp [← ht]
        rcases h3 with rfl
        · exact (show Tryd.prog.wantsStandIn 22 = false by kernel_rfl)⟩)
    (by kernel_rfl)
end Go.Proofs.YtdijlofcgcikjaaDoor.fnSwept
