/-
  DERIVED. GIVEN WITH THE SEED: THE CARDS: each row of YthhiefpickpiaaaGreatDoorRows.lean that lists a variable, with what it lists TIED to the program's text (the seventh form; the later family's looks); each row that meets fmt, with fmt's text TOLD by the authors' own Lean function (tested against real Go, not proved from fmt's source: count such statements apart). THE CARD IS WHAT COUNTS. Prove the row's statement (the work); the ties are given (YthhiefpickpiaaaGreatDoorTie.lean); close each card by the builder's one call (the guide's Derived/Test/ToyasCard.lean, 'card_holds'). Laid BY PROGRAM, IN A SANDBOX (cutbox-door.mjs). By AI agents, Wed Nov 11 2026. No macro, syntax, notation, axiom, sorry.
-/
import Derived.Test.YthhiefpickpiaaaGreatDoorRows
import GoSem.ClaimSeven
namespace Go.Proofs.YthhiefpickpiaaaGreatDoor
namespace Rows

/-- THE TIED CARD OF 'committeelaw1.MarksAgree'. -/
def marksAgreeCard : Claim7 := { stood := { row := marksAgreeRow, standIns := [], harness := (true, "ace39adda311288ec01932280c445107a172358230c6f866c26992467c3fd76d"), looks := false }, kinds := [], alts := [], laidByText := true, laidKinds := [.data, .pinned], laidTests := true, laidLooks := .later }
def MarksAgreeCardSaid : Prop := Claim7.holds Tryz.pinned (.plain (OpenSpec.ofChange marksAgreeSpec)) marksAgreeCard

/-- THE SECOND FORM's CARD OF 'committeelaw1.MarksAgree'. -/
def marksAgreeUptoCard : Claim7 := { stood := { row := marksAgreeUptoRow, standIns := [], harness := (true, "ace39adda311288ec01932280c445107a172358230c6f866c26992467c3fd76d"), looks := false }, kinds := [], alts := [], laidByText := true, laidKinds := [.data, .pinned], laidTests := true, laidLooks := .later }
def MarksAgreeUptoCardSaid : Prop := Claim7.holds Tryz.pinned (.plain (OpenSpec.upto marksAgreeSpec)) marksAgreeUptoCard
end Rows
end Go.Proofs.YthhiefpickpiaaaGreatDoor
