/-
  errors.As at the target *channelError, by contract: nil is none; a channelError is one. Condition: the library's variable errorType holds the handle of the type error.
-/
import Derived.Test.YtimhnkpccbcohaaGreatDoorPkA
import Derived.LaidEql
import Derived.Stop.Asserts
import Derived.RowKitTokens
namespace Go.Proofs.YtimhnkpccbcohaaGreatDoor
open Go.RowKit Go.Extern.Stop Go.Stop Go.Extern
set_option linter.unusedVariables false

theorem as_nil (t : Value) (w : World) :
    Calls Tryz.prog 58 #[.nilIface, t] w fun e w' => e = .returned (.bool false) ∧ w' = w := by
  go_enter Tryz.func58, Tryz.ntmps58
  go_wp2
  go_ret
  exact ⟨rfl, rfl⟩
theorem rl_methodKind (h : Value) (w : World) : (Go.method 326 166 (.agg #[h]) "Kind").run Tryz.prog w = .ok (160, h) w := by kernel_rfl
theorem rl_kindE (w : World) : ((ReflectliteType.abiMethod fun t => (fun a : Nat => Value.int IntKind.u8 (a : Int)) <$> Rtype.kind t) #[.pointer (some ⟨9, 183, none⟩)]).run Tryz.prog w = .ok (.int .u8 25) w := by kernel_rfl
theorem rlm (z : Sem Value) (f : TypeId → Addr → Nat → Nat → Sem Value) (v : Value) :
    ReflectliteValue.method z f #[v] = (do match ← ReflectliteValue.parts v with | none => z | some (t, a, fl) => f t a fl (fl % 32)) := rfl
theorem rl_methodElem (h : Value) (w : World) : (Go.method 326 166 (.agg #[h]) "Elem").run Tryz.prog w = .ok (173, .agg #[h]) w := by kernel_rfl
theorem rl_methodImplements (h : Value) (w : World) : (Go.method 326 166 (.agg #[h]) "Implements").run Tryz.prog w = .ok (174, .agg #[h]) w := by kernel_rfl
theorem rl_methodAssignable (h : Value) (w : World) : (Go.method 326 166 (.agg #[h]) "AssignableTo").run Tryz.prog w = .ok (171, .agg #[h]) w := by kernel_rfl
theorem rl_implementsE (w : World) : (ReflectliteType.relation "Implements" ReflectliteType.implements_ #[.agg #[.pointer (some ⟨9, 183, none⟩)], .iface 166 (.agg #[.pointer (some ⟨9, 87, none⟩)])]).run Tryz.prog w = .ok (.bool true) w := by kernel_rfl
theorem rl_typeOfE (v : Value) (w : World) : (ReflectliteType.typeOf #[.iface 183 v]).run Tryz.prog w = .ok (.iface 166 (.agg #[.pointer (some ⟨9, 183, none⟩)])) w := by kernel_rfl
theorem rl_assignableE (w : World) : (ReflectliteType.relation "AssignableTo" ReflectliteType.assignableTo #[.agg #[.pointer (some ⟨9, 183, none⟩)], .iface 166 (.agg #[.pointer (some ⟨9, 183, none⟩)])]).run Tryz.prog w = .ok (.bool true) w := by kernel_rfl
theorem rl_valueOfE (ch : Int) (cause : Value) (w : World) : (ReflectliteValue.unpack (.iface 183 (.agg #[.int .i64 ch, cause]))).run Tryz.prog w
    = .ok (.agg #[.pointer (some ⟨9, 183, none⟩), .pointer (some ⟨w.heap.size, 0, none⟩), .int .u64 153]) (w.alloc (.cells #[.int .i64 ch, cause] 183)) := by kernel_rfl
theorem rl_mkE (p : Addr) (w : World) : (ReflectliteValue.mk 183 p ReflectliteValue.flagAddr).run Tryz.prog w = .ok (.agg #[.pointer (some ⟨9, 183, none⟩), .pointer (some p), .int .u64 409]) w := by kernel_rfl
theorem rls (v x : Value) : ReflectliteValue.set #[v, x] = (do
    let (some (dst, a, fl), some (src, b, _)) := (← ReflectliteValue.parts v, ← ReflectliteValue.parts x)
      | unsupported (.noEntry "extern/(internal/reflectlite.Value).Set.zeroValue")
    if fl / ReflectliteValue.flagAddr % 2 == 0 then unsupported (.noEntry "extern/(internal/reflectlite.Value).Set.unaddressable")
    let val ← loadVar src b
    if ← Rtype.directlyAssignable dst src then storeVar dst a val
    else if ← Rtype.implements dst src then
      if (← Rtype.kind src) == 20 then
        match val with
        | .nilIface => unsupported (.noEntry "extern/reflectlite: a nil value of one interface type handed on as a value of another")
        | _ => storeVar dst a val
      else storeVar dst a (.iface src val)
    else panicString ("reflectlite.Set: value of type " ++ (← Rtype.spelt src) ++ " is not assignable to type " ++ (← Rtype.spelt dst))
    pure (.tuple #[])) := rfl
theorem rl_partsA (a : Addr) (w : World) : (ReflectliteValue.parts (.agg #[.pointer (some ⟨9, 183, none⟩), .pointer (some a), .int .u64 409])).run Tryz.prog w = .ok (some (183, a, 409)) w := by kernel_rfl
theorem rl_partsE (a : Addr) (w : World) : (ReflectliteValue.parts (.agg #[.pointer (some ⟨9, 183, none⟩), .pointer (some a), .int .u64 153])).run Tryz.prog w = .ok (some (183, a, 153)) w := by kernel_rfl
theorem rl_directE (w : World) : (Rtype.directlyAssignable 183 183).run Tryz.prog w = .ok true w := by kernel_rfl
theorem rl_sizeE (w : World) : (sizeOf 183).run Tryz.prog w = .ok 2 w := by kernel_rfl
theorem rl_aggE (w : World) : (isAgg 183).run Tryz.prog w = .ok true w := by kernel_rfl
theorem rl_loadE (b : Nat) (ch : Int) (cause : Value) (W : World) (h0 : W.cell? ⟨b, 0, none⟩ = some (.int .i64 ch)) (h1 : W.cell? ⟨b, 1, none⟩ = some cause) :
    (loadVar 183 ⟨b, 0, none⟩).run Tryz.prog W = .ok (.agg #[.int .i64 ch, cause]) W := by
  simp [loadVar, h0, h1, Result.andThen, loadCells, loadCellsFrom, Addr.add]
theorem rl_set (tb b : Nat) (ch : Int) (cause o0 o1 : Value) (W : World) (hne : tb ≠ b) (h0 : W.cell? ⟨b, 0, none⟩ = some (.int .i64 ch)) (h1 : W.cell? ⟨b, 1, none⟩ = some cause)
    (hc1 : cause.oneCell' = true) (t0 : W.cell? ⟨tb, 0, none⟩ = some o0) (t1 : W.cell? ⟨tb, 1, none⟩ = some o1) (f0 : W.frozen? ⟨tb, 0, none⟩ = false) (f1 : W.frozen? ⟨tb, 1, none⟩ = false) :
    (ReflectliteValue.set #[.agg #[.pointer (some ⟨9, 183, none⟩), .pointer (some ⟨tb, 0, none⟩), .int .u64 409], .agg #[.pointer (some ⟨9, 183, none⟩), .pointer (some ⟨b, 0, none⟩), .int .u64 153]]).run Tryz.prog W
      = .ok (.tuple #[]) ((W.setCell ⟨tb, 0, none⟩ (.int .i64 ch)).setCell ⟨tb, 1, none⟩ cause) := by
  rw [rls]
  simp only [Sem.run_bind, rl_partsA, rl_partsE, Result.andThen]
  simp [ReflectliteValue.flagAddr, Result.andThen, rl_loadE b ch cause W h0 h1, rl_directE, storeVar, Value.cells, storeCells, Addr.add]
  rw [run_store Tryz.prog W ⟨tb, 0, none⟩ _ _ (by rfl)]
  simp only [t0, f0]
  simp
  rw [run_store Tryz.prog _ ⟨tb, 1, none⟩ _ _ hc1]
  have e1 : (W.setCell ⟨tb, 0, none⟩ (.int .i64 ch)).cell? ⟨tb, 1, none⟩ = some o1 := (World.cell?_setCell_other W ⟨tb, 0, none⟩ ⟨tb, 1, none⟩ _ (by simp)).trans t1
  have e2 : (W.setCell ⟨tb, 0, none⟩ (.int .i64 ch)).frozen? ⟨tb, 1, none⟩ = false := by simpa using f1
  simp only [e1, e2]
  simp
/-- the handle of the type error lies in the library's variable -/
def ErrH (w : World) : Prop := w.cell? ⟨2, 0, none⟩ = some (.iface 166 (.agg #[.pointer (some ⟨9, 87, none⟩)]))
theorem ErrH.below {w w' : World} (h : ErrH w) (hb : Below w.heap.size w w') : ErrH w' := (hb.cell (World.block_lt_of_cell? _ _ h)).trans h
end Go.Proofs.YtimhnkpccbcohaaGreatDoor
