/-
 The law FnExactSetLines at every input: the call returns true and each argument reads as it read before. The listed variables read as laid: the tied card.
-/
import Derived.Test.YtimhnkpccbcohaaGreatDoorZLawSet
import Derived.Test.YtimhnkpccbcohaaGreatDoorZOpenG
import Derived.Test.YtimhnkpccbcohaaGreatDoorZOpenX
import Derived.ProofKit
import Derived.OpenShut
import Derived.ShutString
import Derived.ChangeOld
import Derived.Below
import Derived.SevenTiedAt
import Derived.SliceStrings
namespace Go.Proofs.YtimhnkpccbcohaaGreatDoor.fnExactSetLines
open Go.ChangeShapes Go.WideShapes Go.ChangeAt Go.RowKit
open Go.ChangeMaps (open_string shut_string)
set_option linter.unusedVariables false

theorem own : ownKnob Tryz.prog.godebug = none := by kernel_rfl
theorem laidOut : laidOutB Tryz.prog = true := by kernel_rfl

set_option maxRecDepth 100000 in
theorem lifted (os : Os) (started : os.Started) (H : Type) (enc : TypeId × Value → H) :
  ReturnsInHanded {} Tryz.checked os 6 .any (fun w args => (Rows.fnExactSetLinesSpec.pre enc Tryz.prog Tryz.f6 Rows.fnExactSetLinesRow.domain false w args ∧ laidMetH Tryz.prog Rows.fnExactSetLinesRow.laid w) ∧ sizedMet enc Tryz.prog Tryz.f6 (OpenSpec.ofChange Rows.fnExactSetLinesSpec) false w args) (Rows.fnExactSetLinesSpec.post enc Tryz.prog Tryz.f6 false true false false) := by
 refine returnsInHanded_of_change_and (C := Tryz.checked) (X := fun w _ => laidMetH Tryz.prog Rows.fnExactSetLinesRow.laid w) (fun _ _ _ hh h => h.of_heap hh) own started (by kernel_rfl) Tryz.func6
  (ChangeSpec.witness_at (enc := enc) (C := Tryz.checked) (os := os) (X := fun w _ => laidMetH Tryz.prog Rows.fnExactSetLinesRow.laid w) false (CardL.laidWorld os) #[.agg #[.string ByteArray.empty, .slice none 0 0, .slice none 0 0, .slice none 0 0, .int .i64 0, .int .i64 0, .int .i64 0, .int .i64 0, .slice none 0 0, .slice none 0 0], .slice none 0 0] 8 rfl (by kernel_rfl) (by kernel_rfl) (by kernel_rfl) (by kernel_rfl) (by kernel_rfl) (CardL.metSet os _)) ?_
 intro W base args ds gs before hval0 hW hcnd _ hL _
 have hval : ∀ (j : Nat) t v, Tryz.f6.params[j]? = some t → args[j]? = some v → Value.okWide Tryz.prog W .any base t v := hval0
 have hW' := hW
 obtain ⟨p, q, hA0, hV0, rfl, hfz, hnd⟩ := hW
 have hV : DataW.TrodVars enc Tryz.prog W (fun _ => true) ["loop.example/g03230/impl.errNoKey", "loop.example/g03230/impl.errNoBand", "loop.example/g03230/impl.errNoFit", "loop.example/g03230/impl.errEmpty", "loop.example/g03230/impl.errLoose", "loop.example/g03230/impl.errNoItems", "loop.example/g03230/impl.errTooMany", "loop.example/g03230/impl.errFull"] gs q := hV0
 have hA : DataW.TrodAll enc Tryz.prog W 0 (fun _ => true) true Tryz.f6.params.toList args.toList ds p := hA0
 rw [Tryz.params6] at hA hval
 obtain ⟨v0, vs0, d0, ds0, p0, q0, hargs, rfl, rfl, h0, r0⟩ := trodAll_cons hA
 obtain ⟨v1, vs1, d1, ds1, p1, q1, rfl, rfl, rfl, h1, r1⟩ := trodAll_cons r0
 obtain ⟨rfl, rfl, rfl⟩ := trodAll_nil r1
 obtain rfl : args = #[v0, v1] := by cases args; simp_all
 have hL' : laidMet Tryz.prog [("loop.example/g03230/impl.errEmpty", Rows.laid_loop_example_g03230_impl_errEmpty), ("loop.example/g03230/impl.errFull", Rows.laid_loop_example_g03230_impl_errFull), ("loop.example/g03230/impl.errNoKey", Rows.laid_loop_example_g03230_impl_errNoKey), ("loop.example/g03230/impl.errNoBand", Rows.laid_loop_example_g03230_impl_errNoBand), ("loop.example/g03230/impl.errNoFit", Rows.laid_loop_example_g03230_impl_errNoFit), ("loop.example/g03230/impl.errNoItems", Rows.laid_loop_example_g03230_impl_errNoItems), ("loop.example/g03230/impl.errLoose", Rows.laid_loop_example_g03230_impl_errLoose), ("loop.example/g03230/impl.errTooMany", Rows.laid_loop_example_g03230_impl_errTooMany)] W := hL
 obtain ⟨te, ue, hv_errEmpty⟩ := CardL.sent CardL.errEmpty CardL.errEmptyT hL'
 obtain ⟨bF, sF, hv_errFull, -⟩ := laid_sentinel hL'.tail CardL.errFull CardL.errFullT Tryz.underlying87 CardL.strRow Tryz.underlying192 Tryz.underlying215 rfl rfl Tryz.underlying9 (by kernel_rfl) (by kernel_rfl)
 obtain ⟨tk, uk, hv_errNoKey⟩ := CardL.sent CardL.errNoKey CardL.errNoKeyT hL'.tail.tail
 obtain ⟨tb, ub, hv_errNoBand⟩ := CardL.sent CardL.errNoBand CardL.errNoBandT hL'.tail.tail.tail
 obtain ⟨tf, uf, hv_errNoFit⟩ := CardL.sent CardL.errNoFit CardL.errNoFitT hL'.tail.tail.tail.tail
 obtain ⟨b0, b1, s0, s1, cc0, cc1, tt0, tt1, hv_errNoItems, hv_errLoose, -, -, -, -, -, -, hne, hb0, hb1⟩ := laid_sentinels2 hL'.tail.tail.tail.tail.tail CardL.errNoItems CardL.errNoItemsT CardL.errLoose CardL.errLooseT Tryz.underlying87 CardL.strRow Tryz.underlying192 Tryz.underlying215 rfl rfl Tryz.underlying9 (by kernel_rfl) (by kernel_rfl)
 obtain ⟨ct, cu, hv_errTooMany⟩ := CardL.sent CardL.errTooMany CardL.errTooManyT hL'.tail.tail.tail.tail.tail.tail.tail
 have hgf : W.cell? ⟨7, 0, none⟩ = some (.iface tf uf) := by simpa using World.var?_cell CardL.errNoFit hv_errNoFit 0
 have hgb : W.cell? ⟨6, 0, none⟩ = some (.iface tb ub) := by simpa using World.var?_cell CardL.errNoBand hv_errNoBand 0
 have hge : W.cell? ⟨8, 0, none⟩ = some (.iface te ue) := by simpa using World.var?_cell CardL.errEmpty hv_errEmpty 0
 have hgk : W.cell? ⟨5, 0, none⟩ = some (.iface tk uk) := by simpa using World.var?_cell CardL.errNoKey hv_errNoKey 0
 have hErr : ErrsAt W W.heap.size ⟨tf, uf, tb, ub, te, ue, tk, uk⟩ := ⟨hgf, hgb, hge, hgk, World.block_lt_of_cell? _ _ hgf, World.block_lt_of_cell? _ _ hgb, World.block_lt_of_cell? _ _ hge, World.block_lt_of_cell? _ _ hgk⟩
 have hg1 : W.cell? ⟨3, 0, none⟩ = some (.iface 192 (.pointer (some b0))) := by simpa using World.var?_cell CardL.errNoItems hv_errNoItems 0
 have hg2 : W.cell? ⟨1, 0, none⟩ = some (.iface 192 (.pointer (some b1))) := by simpa using World.var?_cell CardL.errLoose hv_errLoose 0
 have hg3 : W.cell? ⟨4, 0, none⟩ = some (.iface ct cu) := by simpa using World.var?_cell CardL.errTooMany hv_errTooMany 0
 have hgF : W.cell? ⟨0, 0, none⟩ = some (.iface 192 (.pointer (some bF))) := by simpa using World.var?_cell CardL.errFull hv_errFull 0
 have hSet : SErrAt W W.heap.size ⟨⟨tf, uf, tb, ub, te, ue, tk, uk⟩, b0, b1, bF, cc0, cc1, tt0, tt1, ct, cu⟩ := ⟨hErr, hne, hb0, hb1, hg1, hg2, hg3, hgF, (Array.getElem?_eq_some_iff.1 hb0).1, (Array.getElem?_eq_some_iff.1 hb1).1, World.block_lt_of_cell? _ _ hg1, World.block_lt_of_cell? _ _ hg2, World.block_lt_of_cell? _ _ hg3, World.block_lt_of_cell? _ _ hgF⟩
 obtain ⟨rfl, rfl⟩ := hV.unique (CardL.readC enc CardL.errNoKey CardL.errNoKeyT hv_errNoKey trivial (CardL.readC enc CardL.errNoBand CardL.errNoBandT hv_errNoBand trivial (CardL.readC enc CardL.errNoFit CardL.errNoFitT hv_errNoFit trivial (CardL.readC enc CardL.errEmpty CardL.errEmptyT hv_errEmpty trivial (CardL.readC enc CardL.errLoose CardL.errLooseT hv_errLoose trivial (CardL.readC enc CardL.errNoItems CardL.errNoItemsT hv_errNoItems trivial (CardL.readC enc CardL.errTooMany CardL.errTooManyT hv_errTooMany trivial (CardL.readC enc CardL.errFull CardL.errFullT hv_errFull trivial (CardL.read0 enc _)))))))))
 have k0 := h0
 have lt0 : ∀ x ∈ p0, x.block < W.heap.size := by obtain ⟨m, hm⟩ := k0; exact DataW.trod_lt m _ _ _ hm
 obtain ⟨X0, w0, wf0⟩ := openMach (hval 0 30 v0 rfl rfl) h0
 obtain ⟨a1, len1, cap1, rfl⟩ := okWide_slice Tryz.underlying51 (hval 1 51 v1 rfl rfl)
 have k1 := h1
 have lt1 : ∀ x ∈ p1, x.block < W.heap.size := by obtain ⟨m, hm⟩ := k1; exact DataW.trod_lt m _ _ _ hm
 obtain ⟨z1, hl1, hm1, w1, wf1⟩ : ∃ zs : List ByteArray, zs.length = len1 ∧ len1 ≤ maxLen ∧ Strs W a1 zs ∧ ∀ s ∈ zs, s.size ≤ maxLen := by
  obtain ⟨fuel, hf⟩ := h1
  rcases open_strings Tryz.underlying51 Tryz.underlying9 (by kernel_rfl) hf with ⟨hcs, _⟩ | ⟨x, l, c, zs, hcs, _, hl, hm, hz, _, hcell, hwz⟩
  ·simp [Value.cells] at hcs
   obtain ⟨rfl, rfl, rfl⟩ := hcs
   exact ⟨[], rfl, Nat.zero_le _, Strs.nil _ _, by simp⟩
  ·simp [Value.cells] at hcs
   obtain ⟨rfl, rfl, rfl⟩ := hcs
   have hz' : zs.length = cap1 := by simpa using hz
   exact ⟨zs.take len1, by rw [List.length_take]; omega, Nat.le_trans hl hm, Strs.of_row (by omega) hcell, fun n hn => hwz n (List.mem_of_mem_take hn)⟩
 clear hA0 hval0 hV0 hL hL'
 refine (fnExactSetLines_walk 0 W.heap.size v0 X0 a1 len1 cap1 z1 W w0 (Nat.le_refl _) wf0 hl1 hm1 w1 wf1 ⟨⟨tf, uf, tb, ub, te, ue, tk, uk⟩, b0, b1, bF, cc0, cc1, tt0, tt1, ct, cu⟩ hSet).mono fun e W' ⟨he, bel⟩ => ?_
 subst he
 exact ⟨_, rfl, _, _, _, [], _, [.cell 5 0, .cell 6 0, .cell 7 0, .cell 8 0, .cell 1 0, .cell 3 0, .cell 4 0, .cell 0 0], hW', trodAll_mk1 (shut_bool Tryz.underlying4 _), (trodAll_cons_mk (Below.trod laidOut (by kernel_rfl) (of_decide_eq_true (by kernel_rfl)) k0 bel lt0) (trodAll_cons_mk (Below.trod laidOut (by kernel_rfl) (of_decide_eq_true (by kernel_rfl)) k1 bel lt1) trodAll_mk0)), CardL.readC enc CardL.errNoKey CardL.errNoKeyT (CardL.var_below bel hv_errNoKey) trivial (CardL.readC enc CardL.errNoBand CardL.errNoBandT (CardL.var_below bel hv_errNoBand) trivial (CardL.readC enc CardL.errNoFit CardL.errNoFitT (CardL.var_below bel hv_errNoFit) trivial (CardL.readC enc CardL.errEmpty CardL.errEmptyT (CardL.var_below bel hv_errEmpty) trivial (CardL.readC enc CardL.errLoose CardL.errLooseT (CardL.var_below bel hv_errLoose) trivial (CardL.readC enc CardL.errNoItems CardL.errNoItemsT (CardL.var_below bel hv_errNoItems) trivial (CardL.readC enc CardL.errTooMany CardL.errTooManyT (CardL.var_below bel hv_errTooMany) trivial (CardL.readC enc CardL.errFull CardL.errFullT (CardL.var_below bel hv_errFull) trivial (CardL.read0 enc _)))))))), bel.frame _, fun h => by cases h⟩

theorem f_inPlace : Tryz.prog.inPlace 6 = Rows.fnExactSetLinesRow.inPlace := by kernel_rfl
theorem f_unfollowed : Tryz.prog.unfollowed 6 = Rows.fnExactSetLinesRow.unfollowed := by kernel_rfl
theorem f_recurses : Tryz.prog.recurses 6 = Rows.fnExactSetLinesRow.recurses := by kernel_rfl
theorem f_named : Tryz.prog.varsNamed 6 = Rows.fnExactSetLinesRow.named := by kernel_rfl
theorem closed : joinedFacts Tryz.prog 6 Tryz.f6 Rows.fnExactSetLinesSpec Rows.fnExactSetLinesRow = true := by
 rw [joinedFacts, mayEnter, liftsFinal, make, f_inPlace, f_unfollowed, f_recurses, f_named]
 kernel_rfl
theorem over : Rows.fnExactSetLinesRow.holds Tryz.pinned (OpenSpec.ofChange Rows.fnExactSetLinesSpec) :=
 OpenClaim.holds_of_wide 6 Tryz.f6 rfl rfl rfl rfl rfl rfl rfl ⟨rfl, rfl, rfl, rfl, rfl⟩ rfl rfl rfl rfl rfl (by kernel_rfl) Tryz.func6 closed
  (of_decide_eq_true (by kernel_rfl)) (by unfold Func.isWrapper; first | (rw [if_pos (by decide +kernel)]; kernel_rfl) | (rw [if_neg (by decide +kernel)]; exact ⟨rfl, rfl⟩))
  (fun os started H enc _ => lifted os started H enc)

theorem proved : Rows.FnExactSetLinesCardSaid :=
 Claim7.holds_tied_plain_at .later [] [.sentinel, .sentinel, .sentinel, .sentinel, .sentinel, .sentinel, .sentinel, .sentinel] true (true, "a1268c2cf0564d4868527c63b4e324605ef11df2c7d321a8a99f62c6c819bc97") true
  over (fun _ h => by cases h) (by kernel_rfl) (fun _ h => by cases h) fnExactSetLines_row_tie rfl ⟨rfl, rfl⟩ (by kernel_rfl) rfl
  (fun f fn hf hfn => by
   obtain rfl : f = 6 := Option.some.inj ((show Tryz.prog.funcNamed "loop.example/g03230/laws.FnExactSetLines" = some 6 by kernel_rfl).symm.trans hf) |>.symm
   obtain rfl : fn = Tryz.f6 := (Option.some.inj (Tryz.func6.symm.trans hfn)).symm
   exact ⟨by kernel_rfl, fun j t ht => by
    rw [Tryz.params6] at ht
    have h3 : t = 30 ∨ t = 51 := by
     rcases j with _ | _ | j
     all_goals simp at ht
     all_goals simp [← ht]
    rcases h3 with rfl | rfl
    ·exact (show Tryz.prog.wantsStandIn 30 = false by kernel_rfl)
    ·exact (show Tryz.prog.wantsStandIn 51 = false by kernel_rfl)⟩)
  (by kernel_rfl)
end Go.Proofs.YtimhnkpccbcohaaGreatDoor.fnExactSetLines
