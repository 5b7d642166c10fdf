/-
  A LIST OF STRINGS IN MEMORY.
-/
import Derived.Test.YthhiefpickpiaaaGreatDoorStream
namespace Go.Proofs.YthhiefpickpiaaaGreatDoor.Key
open Go.ChangeShapes Go.WideShapes Go.ChangeAt Go.RowKit
set_option linter.unusedVariables false

/-- A slice's cells are these strings. -/
def SL (w : World) (A : Option Addr) (ss : List ByteArray) : Prop :=
  (∀ x ∈ ss, x.size ≤ 1000) ∧ (0 < ss.length → ∃ b, A = some ⟨b, 0, none⟩ ∧ b < w.heap.size ∧ ∀ (i : Nat) (h : i < ss.length), w.cell? ⟨b, i, none⟩ = some (.string ss[i]))
theorem SL.below {w w' : World} {A : Option Addr} {ss : List ByteArray} (h : SL w A ss) (hb : Below w.heap.size w w') : SL w' A ss :=
  ⟨h.1, fun h0 => by
    obtain ⟨b, hA, hlt, hc⟩ := h.2 h0
    exact ⟨b, hA, Nat.lt_of_lt_of_le hlt hb.size, fun i hi => (hb.cell (p := ⟨b, i, none⟩) hlt).trans (hc i hi)⟩⟩

end Go.Proofs.YthhiefpickpiaaaGreatDoor.Key
