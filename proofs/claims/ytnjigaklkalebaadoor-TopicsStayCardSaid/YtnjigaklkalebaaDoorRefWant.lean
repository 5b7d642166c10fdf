/-
  THE REFERENCE OF THE CHECK OF WANTED TOPICS: WantedFault over a right forest.
-/
import Derived.Test.YtnjigaklkalebaaDoorRefSkills
namespace Go.Proofs.YtnjigaklkalebaaDoor.For
open Go.ChangeShapes Go.WideShapes Go.ChangeAt Go.RowKit Stm Key
set_option linter.unusedVariables false

def prevW (s : List ByteArray) : Nat → ByteArray
  | 0 => ⟨#[]⟩
  | k + 1 => s.getD k ⟨#[]⟩
theorem prevW_next {s : List ByteArray} {k : Nat} (h : k < s.length) : prevW s (k + 1) = s[k] := by simp [prevW, List.getD, h]

end Go.Proofs.YtnjigaklkalebaaDoor.For
