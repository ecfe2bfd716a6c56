/-
  TakeMatrix of the program by contract. Conditions: lengths of at most 2^20; errors.errorType and errEmpty read as laid.
-/
import Derived.Test.YtimhnkpccbcohaaGreatDoorDropI
namespace Go.Proofs.YtimhnkpccbcohaaGreatDoor
open Go.RowKit Go.Conc
set_option linter.unusedVariables false
set_option linter.unusedSimpArgs false

def takeOk (f : Fnt) (ms : List (List Mat)) (ch : Int) : Bool := magB f ms && (inB ch 0 ((ms.length : Int) - 1) && decide (0 < (rowAt ms ch).length))
def takeX (f : Fnt) (ms : List (List Mat)) (ch : Int) : Mat := if takeOk f ms ch then (rowAt ms ch).getD 0 (0, 0) else (0, 0)
def takeL (f : Fnt) (ms : List (List Mat)) (ch : Int) : List (List Mat) := if takeOk f ms ch then ms.set ch.toNat ((rowAt ms ch).drop 1) else []
end Go.Proofs.YtimhnkpccbcohaaGreatDoor
