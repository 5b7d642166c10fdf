/-
  THE TABLE OF MARKS: what it is in memory.
-/
import Derived.Test.YthhiefpickpiaaaGreatDoorCalR
namespace Go.Proofs.YthhiefpickpiaaaGreatDoor.Cal
open Go.ChangeShapes Go.WideShapes Go.ChangeAt Go.RowKit Stm Key
set_option linter.unusedVariables false

def papersL (l : List Mk) : List ByteArray := dedB (l.map Mk.p)
def peopleL (l : List Mk) : List ByteArray := dedB (l.map Mk.h)
/-- The table of marks at block T. -/
def Tab (w : World) (T : Nat) (l : List Mk) : Prop := ∃ (P H : Option Addr) (cP cH MP MH bo bb : Nat) (v : Nat → Value),
  Blk w T 49 #[.slice P (papersL l).length cP, .slice H (peopleL l).length cH, .map (some MP), .map (some MH), .slice (some ⟨bo, 0, none⟩) (papersL l).length (papersL l).length, .slice (some ⟨bb, 0, none⟩) (peopleL l).length (peopleL l).length] ∧
  SL w P (papersL l) ∧ SL w H (peopleL l) ∧ NS w MP (papersL l) ∧ NS w MH (peopleL l) ∧ w.rowIs bo 74 (papersL l).length v ∧ w.rowIs bb 74 (peopleL l).length (fun j => v ((papersL l).length + j)) ∧
  ∀ i, i < (papersL l).length + (peopleL l).length → SCL w (v i) (rowX (papersL l) (peopleL l) l i)
/-- What newTable hands back. -/
def TabRet (r : Int) (l : List Mk) (w : World) (e : Ending) (w' : World) : Prop := Below w.heap.size w w' ∧ ((r ≠ 0 ∧ e = .returned (.tuple #[.pointer none, .int .i64 r])) ∨ (r = 0 ∧ ∃ T, e = .returned (.tuple #[.pointer (some ⟨T, 0, none⟩), .int .i64 0]) ∧ w.heap.size ≤ T ∧ Tab w' T l))
end Go.Proofs.YthhiefpickpiaaaGreatDoor.Cal
