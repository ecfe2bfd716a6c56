/-
  DropMatrix of the program by contract. Conditions: lengths of at most 2^20; errors.errorType and errFull read as laid.
-/
import Derived.Test.YtimhnkpccbcohaaGreatDoorTakeM
import Derived.Test.YtimhnkpccbcohaaGreatDoorWear
import Derived.Test.YtimhnkpccbcohaaGreatDoorCntMag
namespace Go.Proofs.YtimhnkpccbcohaaGreatDoor
open Go.RowKit Go.Conc
set_option linter.unusedVariables false
set_option linter.unusedSimpArgs false

theorem wait_none (w : World) (B hi : Nat) : OwnMag w B hi (.slice none 0 0) [] [] :=
  ⟨World.ownsRow_nil _ _ _ _, fun j xs h => by simp at h, fun i j h h' g e => by simp at e, fun i h g e => by simp at e, fun g h => by cases h⟩
theorem fontCodes {w : World} {lo hi n m c d : Nat} {A A2 : Option Addr} {s : ByteArray} {f : Fnt} (h : FontV w lo hi (.agg #[.string s, .slice A n c, .slice A2 m d]) f) : Ints w A2 f.cs := by
  obtain ⟨X, x, Y, y, hv, -, h2, -⟩ := h
  injection hv with hv
  injection hv with hv
  simp only [List.cons.injEq, Value.slice.injEq] at hv
  rw [hv.2.2.1.1]
  exact h2.ints
def dropAt (f : Fnt) (x : Mat) : Nat := fallOf f.cs x.2
def dropOk (f : Fnt) (ms : List (List Mat)) (x : Mat) : Bool := magB f ms && (matB f x && decide ((rowAt ms (dropAt f x)).length < 20))
def dropI (f : Fnt) (ms : List (List Mat)) (x : Mat) : Int := if dropOk f ms x then (dropAt f x : Int) else 0
def dropL (f : Fnt) (ms : List (List Mat)) (x : Mat) : List (List Mat) := if dropOk f ms x then ms.set (dropAt f x) (rowAt ms (dropAt f x) ++ [x]) else []
theorem drop_lt {f : Fnt} {ms : List (List Mat)} {x : Mat} (hmag : magB f ms = true) (hmat : matB f x = true) : fallOf f.cs x.2 < ms.length := by
  obtain ⟨hf, hl, -⟩ := magB_rows hmag
  obtain ⟨h1, -, -⟩ := fontB_codes hf
  unfold matB at hmat
  rw [Bool.and_eq_true, Bool.and_eq_true] at hmat
  obtain ⟨hk, hset, hp⟩ := hmat
  obtain ⟨k0, k1⟩ := (inB_iff _ _ _).1 hk
  have hkl : x.1.toNat < f.cs.length := by omega
  rw [hl, h1]
  unfold fallOf
  refine List.findIdx_lt_length_of_exists ⟨f.cs[x.1.toNat], List.getElem_mem hkl, ?_⟩
  rw [List.getD, List.getElem?_eq_getElem hkl] at hp
  exact hp
end Go.Proofs.YtimhnkpccbcohaaGreatDoor
