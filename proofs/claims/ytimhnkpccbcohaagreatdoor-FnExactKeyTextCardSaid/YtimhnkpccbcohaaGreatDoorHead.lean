/-
  The head of the translation, read once: what the program says of its own make. Closed facts of this program, no condition.
-/
import Derived.Test.YtimhnkpccbcohaaGreatDoorRows
import Derived.JoinedOf
import Derived.KernelRfl
namespace Go.Proofs.YtimhnkpccbcohaaGreatDoor
open Go
def chars (l : List Nat) : List Char := l.map Char.ofNat
set_option maxRecDepth 100000 in
def head1 : List Nat := [104, 97, 114, 110, 101, 115, 115]
set_option maxRecDepth 100000 in
def head2 : List Nat := [97, 49, 50, 54, 56, 99, 50, 99, 102, 48, 53, 54, 52, 100, 52, 56, 54, 56, 53, 50, 55, 99, 54, 51, 98, 52, 101, 51, 50, 52, 54, 48, 53, 101, 102, 49, 49, 100, 102, 50, 99, 55, 100, 51, 50, 49, 97, 56, 97, 57, 57, 102, 54, 50, 99, 54, 99, 56, 49, 57, 98, 99, 57, 55]
def head3 : List Nat := [99, 117, 116]
set_option maxRecDepth 100000 in
def head4 : List Nat := [97, 116, 32, 108, 111, 111, 112, 46, 101, 120, 97, 109, 112, 108, 101, 47, 103, 48, 51, 50, 51, 48, 47, 108, 97, 119, 115, 46, 70, 110, 69, 120, 97, 99, 116, 68, 114, 111, 112, 87, 97, 105, 116, 105, 110, 103, 32, 108, 111, 111, 112, 46, 101, 120, 97, 109, 112, 108, 101, 47, 103, 48, 51, 50, 51, 48, 47, 108, 97, 119, 115, 46, 70, 110, 69, 120, 97, 99, 116, 67, 97, 115, 116, 76, 105, 110, 101, 32, 108, 111, 111, 112, 46, 101, 120, 97, 109, 112, 108, 101, 47, 103, 48, 51, 50, 51, 48, 47, 108, 97, 119, 115, 46, 70, 110, 69, 120, 97, 99, 116, 75, 101, 121, 84, 101, 120, 116, 32, 108, 111, 111, 112, 46, 101, 120, 97, 109, 112, 108, 101, 47, 103, 48, 51, 50, 51, 48, 47, 108, 97, 119, 115, 46, 70, 110, 69, 120, 97, 99, 116, 83, 101, 116, 76, 105, 110, 101, 115]
theorem word_of : ∀ (w r : List Char), (∀ c ∈ w, c ≠ Char.ofNat 32) → wordsSigns (w ++ Char.ofNat 32 :: r) = w :: wordsSigns r
  | [], r, _ => rfl
  | c :: w, r, h => by
    have ih := word_of w r (fun d hd => h d (List.mem_cons_of_mem _ hd))
    have hc : c ≠ Char.ofNat 32 := h c (List.mem_cons_self)
    show wordsSigns (c :: (w ++ Char.ofNat 32 :: r)) = _
    rw [wordsSigns]
    · rw [ih]
    · exact hc
theorem cut_is : "cut".toList = chars [99, 117, 116] := by
  rw [show "cut" = String.ofList (chars [99, 117, 116]) from by kernel_rfl, String.toList_ofList]
theorem harness_is : "harness".toList = chars head1 := by
  rw [show "harness" = String.ofList (chars head1) from by kernel_rfl, String.toList_ofList]
theorem head_is : Tryz.prog.initOrder = String.ofList (chars head1 ++ Char.ofNat 32 :: (chars head2 ++ Char.ofNat 32 :: (chars head3 ++ Char.ofNat 32 :: chars head4))) := by kernel_rfl
theorem noBlank (l : List Nat) (h : (chars l).all (fun c => c != Char.ofNat 32) = true) : ∀ c ∈ chars l, c ≠ Char.ofNat 32 := fun c hc => by
  rw [List.all_eq_true] at h
  simpa using h c hc
theorem head_words : behindMainWord (wordsSigns Tryz.prog.initOrder.toList) = chars head3 :: wordsSigns (chars head4) := by
  rw [head_is, String.toList_ofList, word_of _ _ (noBlank _ (by kernel_rfl)), word_of _ _ (noBlank _ (by kernel_rfl)), word_of _ _ (noBlank _ (by kernel_rfl))]
  generalize wordsSigns (chars head4) = R
  have h : ((chars head1 == "harness".toList || chars head1 == "ownmain".toList) && isSumSigns (chars head2)) = true := by
    rw [harness_is, beq_self_eq_true, Bool.true_or, Bool.true_and]
    kernel_rfl
  show (if ((chars head1 == "harness".toList || chars head1 == "ownmain".toList) && isSumSigns (chars head2)) = true then chars head3 :: R else chars head1 :: chars head2 :: chars head3 :: R) = _
  rw [if_pos h]
def cutW : List Char := chars [99, 117, 116]
theorem cut_a : (cutW == "gc".toList || cutW == "spec".toList) = false := by kernel_rfl
theorem cut_b : (cutW == "carried".toList) = false := by kernel_rfl
theorem cut_c : (cutW == "cut".toList) = true := by rw [cut_is]; exact beq_self_eq_true _
section
variable {P : Program} {R : List (List Char)} (h : behindMainWord (wordsSigns P.initOrder.toList) = cutW :: R)
include h
theorem make_of : P.make = some .cut := by
  unfold Program.make
  rw [h]
  simp only [cut_a, cut_c, Bool.true_or, if_true, Bool.false_eq_true, if_false]
omit h in
theorem strip_of : stripLifts liftWords (cutW :: R) = ([], cutW :: R) := by
  kernel_rfl
theorem lifts_of : P.headLifts = [] := by
  unfold Program.headLifts
  rw [h, strip_of]
  simp
theorem liftsFinal_of : P.liftsFinal = false := by
  unfold Program.liftsFinal
  rw [lifts_of h, h]
  have : ((cutW :: R).head? == some "carried".toList) = false := by
    show (some cutW == some "carried".toList) = false
    kernel_rfl
  simp only [this, Bool.false_and, Bool.false_or]
  rfl
theorem mayEnter_of (h1 : P.laysLater = false) (h2 : P.bearsReflect = false) (h3 : P.doorFits [] = true) : P.mayEnter = true := by
  unfold Program.mayEnter
  rw [h]
  have e : ((cutW :: R).head? == some "cut".toList) = true := by
    rw [← show cutW = "cut".toList from cut_is.symm]
    simp
  simp only [strip_of, h1, h2, h3, cut_a, cut_b, e]
  simp
end
theorem head_cut : behindMainWord (wordsSigns Tryz.prog.initOrder.toList) = cutW :: wordsSigns (chars head4) := head_words
theorem make : Tryz.prog.make = some .cut := make_of head_cut
theorem liftsFinal : Tryz.prog.liftsFinal = false := liftsFinal_of head_cut
theorem p1 : Tryz.prog.laysLater = false := by kernel_rfl
theorem p2 : Tryz.prog.bearsReflect = false := by kernel_rfl
theorem p3 : Tryz.prog.doorFits [] = true := by kernel_rfl
theorem mayEnter : Tryz.prog.mayEnter = true := mayEnter_of head_cut p1 p2 p3
end Go.Proofs.YtimhnkpccbcohaaGreatDoor
