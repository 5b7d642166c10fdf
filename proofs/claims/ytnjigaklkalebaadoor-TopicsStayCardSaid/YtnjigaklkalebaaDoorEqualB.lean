/-
  slices.Equal OF TWO EQUAL LISTS OF REASONS (api.Because).
-/
import Derived.Test.YtnjigaklkalebaaDoorOr
import Derived.Deep.RegionHeld3
namespace Go.Proofs.YtnjigaklkalebaaDoor.For
open Go.ChangeShapes Go.WideShapes Go.ChangeAt Go.RowKit Stm Key
set_option linter.unusedVariables false

/-- A reason: a topic, the skill by which it is known, how well. -/
structure Bc where
  t : ByteArray
  b : ByteArray
  p : Int
  q : Int
/-- A list of reasons in memory. -/
def BL (w : World) (A : Option Addr) (l : List Bc) : Prop :=
  0 < l.length → ∃ g, A = some ⟨g, 0, none⟩ ∧ g < w.heap.size ∧ ∀ (i : Nat) (h : i < l.length), w.cell? ⟨g, i * 4, none⟩ = some (.string l[i].t) ∧ w.cell? ⟨g, i * 4 + 1, none⟩ = some (.string l[i].b) ∧ w.cell? ⟨g, i * 4 + 2, none⟩ = some (.int .i64 l[i].p) ∧ w.cell? ⟨g, i * 4 + 3, none⟩ = some (.int .i64 l[i].q)

end Go.Proofs.YtnjigaklkalebaaDoor.For
