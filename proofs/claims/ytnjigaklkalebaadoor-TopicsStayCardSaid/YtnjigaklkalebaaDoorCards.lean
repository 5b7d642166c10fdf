/-
  DERIVED. GIVEN WITH THE SEED: THE CARDS: each row of YtnjigaklkalebaaDoorRows.lean that lists a variable, with what it lists TIED to the program's text (the seventh form; the later family's looks); each row that meets fmt, with fmt's text TOLD by the authors' own Lean function (tested against real Go, not proved from fmt's source: count such statements apart). THE CARD IS WHAT COUNTS. Prove the row's statement (the work); the ties are given (YtnjigaklkalebaaDoorTie.lean); close each card by the builder's one call (the guide's Derived/Test/ToyasCard.lean, 'card_holds'). Laid BY PROGRAM, IN A SANDBOX (cutbox-door.mjs). By AI agents, Wed Nov 11 2026. No macro, syntax, notation, axiom, sorry.
-/
import Derived.Test.YtnjigaklkalebaaDoorRows
import GoSem.ClaimSeven
namespace Go.Proofs.YtnjigaklkalebaaDoor
namespace Rows

/-- THE TIED CARD OF 'committeekeep1.TopicsStay'. -/
def topicsStayCard : Claim7 := { stood := { row := topicsStayRow, standIns := [], harness := (true, "9a66bcd2916f92518e2c8be526e232604d53f1c4111023ba539baab955cf5842"), looks := false }, kinds := [], alts := [], laidByText := true, laidKinds := [.data, .pinned], laidTests := true, laidLooks := .later }
def TopicsStayCardSaid : Prop := Claim7.holds Tryd.pinned (.plain (OpenSpec.ofChange topicsStaySpec)) topicsStayCard

/-- THE SECOND FORM's CARD OF 'committeekeep1.TopicsStay'. -/
def topicsStayUptoCard : Claim7 := { stood := { row := topicsStayUptoRow, standIns := [], harness := (true, "9a66bcd2916f92518e2c8be526e232604d53f1c4111023ba539baab955cf5842"), looks := false }, kinds := [], alts := [], laidByText := true, laidKinds := [.data, .pinned], laidTests := true, laidLooks := .later }
def TopicsStayUptoCardSaid : Prop := Claim7.holds Tryd.pinned (.plain (OpenSpec.upto topicsStaySpec)) topicsStayUptoCard
end Rows
end Go.Proofs.YtnjigaklkalebaaDoor
