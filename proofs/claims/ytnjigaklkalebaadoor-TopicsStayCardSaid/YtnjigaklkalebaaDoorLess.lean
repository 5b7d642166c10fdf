/-
  THE ORDER OF STRINGS AS THE WALK SPELLS IT; a list without its first elements.
-/
import Derived.Test.YtnjigaklkalebaaDoorKeys
namespace Go.Proofs.YtnjigaklkalebaaDoor.Key
open Go.ChangeShapes Go.WideShapes Go.ChangeAt Go.RowKit
set_option linter.unusedVariables false

def leB (a b : ByteArray) : Bool := Op.bytesLess a.toList b.toList || a.toList == b.toList
theorem drop_step {α : Type} (l : List α) (k : Nat) (h : k < l.length) : l.drop k = l[k] :: l.drop (k + 1) := List.drop_eq_getElem_cons h
end Go.Proofs.YtnjigaklkalebaaDoor.Key
