/-
  DERIVED. GIVEN WITH THE SEED: THE CARDS: each row of YtglmdgjbfnoidabDoorRows.lean that lists a variable, with what it lists TIED to the program's text (the seventh form; the later family's looks); each row that meets fmt, with fmt's text TOLD by the authors' own Lean function (tested against real Go, not proved from fmt's source: count such statements apart). THE CARD IS WHAT COUNTS. Prove the row's statement (the work); the ties are given (YtglmdgjbfnoidabDoorTie.lean); close each card by the builder's one call (the guide's Derived/Test/ToyasCard.lean, 'card_holds'). Laid BY PROGRAM, IN A SANDBOX (cutbox-door.mjs). By AI agents, Wed Nov 11 2026. No macro, syntax, notation, axiom, sorry.
-/
import Derived.Test.YtglmdgjbfnoidabDoorRows
import GoSem.ClaimSeven
namespace Go.Proofs.YtglmdgjbfnoidabDoor
namespace Rows

/-- THE TIED CARD OF 'committeelaw1.ArrivalsCount'. -/
def arrivalsCountCard : Claim7 := { stood := { row := arrivalsCountRow, standIns := [], harness := (true, "58343de4a05e3bdde905143940afc9533e11997871133ae02507e9cc8616675b"), looks := false }, kinds := [], alts := [], laidByText := true, laidKinds := [.data, .pinned], laidTests := true, laidLooks := .later }
def ArrivalsCountCardSaid : Prop := Claim7.holds Tryd.pinned (.plain (OpenSpec.ofChange arrivalsCountSpec)) arrivalsCountCard

/-- THE SECOND FORM's CARD OF 'committeelaw1.ArrivalsCount'. -/
def arrivalsCountUptoCard : Claim7 := { stood := { row := arrivalsCountUptoRow, standIns := [], harness := (true, "58343de4a05e3bdde905143940afc9533e11997871133ae02507e9cc8616675b"), looks := false }, kinds := [], alts := [], laidByText := true, laidKinds := [.data, .pinned], laidTests := true, laidLooks := .later }
def ArrivalsCountUptoCardSaid : Prop := Claim7.holds Tryd.pinned (.plain (OpenSpec.upto arrivalsCountSpec)) arrivalsCountUptoCard
end Rows
end Go.Proofs.YtglmdgjbfnoidabDoor
