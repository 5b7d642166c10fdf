/-
  DERIVED. GIVEN WITH THE SEED: THE CARDS: each row of YtgajencgpceababGreatDoorRows.lean that lists a variable, with what it lists TIED to the program's text (the seventh form; the later family's looks); each row that meets fmt, with fmt's text TOLD by the authors' own Lean function (tested against real Go, not proved from fmt's source: count such statements apart). THE CARD IS WHAT COUNTS. Prove the row's statement (the work); the ties are given (YtgajencgpceababGreatDoorTie.lean); close each card by the builder's one call (the guide's Derived/Test/ToyasCard.lean, 'card_holds'). Laid BY PROGRAM, IN A SANDBOX (cutbox-door.mjs). By AI agents, Wed Nov 11 2026. No macro, syntax, notation, axiom, sorry.
-/
import Derived.Test.YtgajencgpceababGreatDoorRows
import GoSem.ClaimSeven
namespace Go.Proofs.YtgajencgpceababGreatDoor
namespace Rows

/-- THE TIED CARD OF 'committeekeep1.AgreeWholly'. -/
def agreeWhollyCard : Claim7 := { stood := { row := agreeWhollyRow, standIns := [], harness := (true, "c924501b02926c788357609bc3f6fc3e1e3014ae6ac2a32b21fe53655f976e10"), looks := false }, kinds := [], alts := [], laidByText := true, laidKinds := [.data, .pinned], laidTests := true, laidLooks := .later }
def AgreeWhollyCardSaid : Prop := Claim7.holds Tryz.pinned (.plain (OpenSpec.ofChange agreeWhollySpec)) agreeWhollyCard

/-- THE SECOND FORM's CARD OF 'committeekeep1.AgreeWholly'. -/
def agreeWhollyUptoCard : Claim7 := { stood := { row := agreeWhollyUptoRow, standIns := [], harness := (true, "c924501b02926c788357609bc3f6fc3e1e3014ae6ac2a32b21fe53655f976e10"), looks := false }, kinds := [], alts := [], laidByText := true, laidKinds := [.data, .pinned], laidTests := true, laidLooks := .later }
def AgreeWhollyUptoCardSaid : Prop := Claim7.holds Tryz.pinned (.plain (OpenSpec.upto agreeWhollySpec)) agreeWhollyUptoCard
end Rows
end Go.Proofs.YtgajencgpceababGreatDoor
