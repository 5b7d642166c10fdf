/-
  DERIVED. GIVEN WITH THE SEED: THE CARDS: each row of YtgajencgpceabaaGreatDoorRows.lean that lists a variable, with what it lists TIED to the program's text (the seventh form; the later family's looks); each row that meets fmt, with fmt's text TOLD by the authors' own Lean function (tested against real Go, not proved from fmt's source: count such statements apart). THE CARD IS WHAT COUNTS. Prove the row's statement (the work); the ties are given (YtgajencgpceabaaGreatDoorTie.lean); close each card by the builder's one call (the guide's Derived/Test/ToyasCard.lean, 'card_holds'). Laid BY PROGRAM, IN A SANDBOX (cutbox-door.mjs). By AI agents, Wed Nov 11 2026. No macro, syntax, notation, axiom, sorry.
-/
import Derived.Test.YtgajencgpceabaaGreatDoorRows
import GoSem.ClaimSeven
namespace Go.Proofs.YtgajencgpceabaaGreatDoor
namespace Rows

/-- THE TIED CARD OF 'committeelaw1.MarksChecked'. -/
def marksCheckedCard : Claim7 := { stood := { row := marksCheckedRow, standIns := [], harness := (true, "23bf528ec3ec3481f8066b4a6b3de1704f6ca73ca0dfd8a24a9a286162652902"), looks := false }, kinds := [], alts := [], laidByText := true, laidKinds := [.data, .pinned], laidTests := true, laidLooks := .later }
def MarksCheckedCardSaid : Prop := Claim7.holds Tryz.pinned (.plain (OpenSpec.ofChange marksCheckedSpec)) marksCheckedCard

/-- THE SECOND FORM's CARD OF 'committeelaw1.MarksChecked'. -/
def marksCheckedUptoCard : Claim7 := { stood := { row := marksCheckedUptoRow, standIns := [], harness := (true, "23bf528ec3ec3481f8066b4a6b3de1704f6ca73ca0dfd8a24a9a286162652902"), looks := false }, kinds := [], alts := [], laidByText := true, laidKinds := [.data, .pinned], laidTests := true, laidLooks := .later }
def MarksCheckedUptoCardSaid : Prop := Claim7.holds Tryz.pinned (.plain (OpenSpec.upto marksCheckedSpec)) marksCheckedUptoCard
end Rows
end Go.Proofs.YtgajencgpceabaaGreatDoor
