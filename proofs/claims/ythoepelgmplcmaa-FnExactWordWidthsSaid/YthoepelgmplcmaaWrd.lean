/-
  The words of a text, by the program: wordsOf by contract over strings.FieldsFunc. Condition: a text of at most 2^20 bytes.
-/
import Derived.Test.YthoepelgmplcmaaShelf
import Derived.Test.YthoepelgmplcmaaStr
namespace Go.Proofs.Ythoepelgmplcmaa
open Go.RowKit Go.Shelf
set_option linter.unusedVariables false

def isBl (r : Nat) : Bool := r == 32
/-- the words as the library parts them -/
def wordsR (s : ByteArray) : List ByteArray := Lib.goFieldsP isBl s
theorem bl_enter (args : Array Value) (w : World) : Sem.run Try.prog (callFunc 179 args) w = .ok (.enter 179 args) w := by kernel_rfl
theorem bl_any (x : Nat) (w : World) : Calls Try.prog 179 #[.int .i32 (x : Int)] w fun e w' => e = .returned (.bool (isBl x)) ∧ w = w' := by
  have HR : Hid (isBl x = ((x : Int) == 32)) := by
    show _ = _
    unfold isBl
    by_cases h : x = 32
    · subst h; rfl
    · rw [beq_eq_false_iff_ne.2 h, beq_eq_false_iff_ne.2 (by omega)]
  go_enter Try.func179, Try.ntmps179
  go_wp2
  go_ret
  exact ⟨ret_bool HR.out.symm, rfl⟩
theorem wordsOf_any (s : ByteArray) (w : World) (hs : s.size ≤ 1048576) :
    Calls Try.prog 137 #[.string s] w fun e w' => ∃ A n, e = .returned (.slice (some ⟨A, 0, none⟩) n n) ∧ n = (wordsR s).length ∧ w'.ownsRow w.heap.size 9 1 (.slice (some ⟨A, 0, none⟩) n n) n ((wordsR s).map Value.string) ∧ Below w.heap.size w w' := by
  have HP : ∀ (w : World), PredAt Try.prog 179 #[] encR isBl w := fun w W x hb => by
    unfold FnGives
    refine (bl_any x W).mono ?_
    rintro e w' ⟨rfl, rfl⟩
    exact ⟨rfl, 0, rfl⟩
  go_enter Try.func137, Try.ntmps137
  go_wp2_with fail
  refine (Try.strings_FieldsFunc 179 #[] bl_enter isBl s _ (by omega) (HP _)).mono ?_
  rintro e w1 ⟨A, rfl, hA, hO, hb⟩
  go_wp2
  go_ret
  exact ⟨A, _, rfl, rfl, hO, hb⟩
end Go.Proofs.Ythoepelgmplcmaa
