/-
  DERIVED. GIVEN WITH THE SEED: THE CARDS: each row of YtanoojmgjinmfabDoorRows.lean that lists a variable, with what it lists TIED to the program's text (the seventh form; the later family's looks); each row that meets fmt, with fmt's text TOLD by the authors' own Lean function (tested against real Go, not proved from fmt's source: count such statements apart). THE CARD IS WHAT COUNTS. Prove the row's statement (the work); the ties are given (YtanoojmgjinmfabDoorTie.lean); close each card by the builder's one call (the guide's Derived/Test/ToyasCard.lean, 'card_holds'). Laid BY PROGRAM, IN A SANDBOX (cutbox-door.mjs). By AI agents, Wed Nov 11 2026. No macro, syntax, notation, axiom, sorry.
-/
import Derived.Test.YtanoojmgjinmfabDoorRows
import GoSem.ClaimSeven
namespace Go.Proofs.YtanoojmgjinmfabDoor
namespace Rows

/-- THE TIED CARD OF 'committeelaw1.AffinitiesFound'. -/
def affinitiesFoundCard : Claim7 := { stood := { row := affinitiesFoundRow, standIns := [], harness := (true, "25a274afb9d471082a988283ac3a732bdf5fc7248479100f5206f34406106f33"), looks := false }, kinds := [], alts := [], laidByText := true, laidKinds := [.data, .pinned], laidTests := true, laidLooks := .later }
def AffinitiesFoundCardSaid : Prop := Claim7.holds Tryd.pinned (.plain (OpenSpec.ofChange affinitiesFoundSpec)) affinitiesFoundCard

/-- THE SECOND FORM's CARD OF 'committeelaw1.AffinitiesFound'. -/
def affinitiesFoundUptoCard : Claim7 := { stood := { row := affinitiesFoundUptoRow, standIns := [], harness := (true, "25a274afb9d471082a988283ac3a732bdf5fc7248479100f5206f34406106f33"), looks := false }, kinds := [], alts := [], laidByText := true, laidKinds := [.data, .pinned], laidTests := true, laidLooks := .later }
def AffinitiesFoundUptoCardSaid : Prop := Claim7.holds Tryd.pinned (.plain (OpenSpec.upto affinitiesFoundSpec)) affinitiesFoundUptoCard
end Rows
end Go.Proofs.YtanoojmgjinmfabDoor
