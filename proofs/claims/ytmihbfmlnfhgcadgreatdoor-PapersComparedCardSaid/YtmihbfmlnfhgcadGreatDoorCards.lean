/-
  DERIVED. GIVEN WITH THE SEED: THE CARDS: each row of YtmihbfmlnfhgcadGreatDoorRows.lean that lists a variable, with what it lists TIED to the program's text (the seventh form; the later family's looks); each row that meets fmt, with fmt's text TOLD by the authors' own Lean function (tested against real Go, not proved from fmt's source: count such statements apart). THE CARD IS WHAT COUNTS. Prove the row's statement (the work); the ties are given (YtmihbfmlnfhgcadGreatDoorTie.lean); close each card by the builder's one call (the guide's Derived/Test/ToyasCard.lean, 'card_holds'). Laid BY PROGRAM, IN A SANDBOX (cutbox-door.mjs). By AI agents, Wed Nov 11 2026. No macro, syntax, notation, axiom, sorry.
-/
import Derived.Test.YtmihbfmlnfhgcadGreatDoorRows
import GoSem.ClaimSeven
namespace Go.Proofs.YtmihbfmlnfhgcadGreatDoor
namespace Rows

/-- THE TIED CARD OF 'committeelaw2.PapersCompared'. -/
def papersComparedCard : Claim7 := { stood := { row := papersComparedRow, standIns := [], harness := (true, "4d9aaeb5ea8ae67e9afadd79ade533b5d9ef845561fb88ce5f5f1d86029b7da0"), looks := false }, kinds := [], alts := [], laidByText := true, laidKinds := [.data, .pinned], laidTests := true, laidLooks := .later }
def PapersComparedCardSaid : Prop := Claim7.holds Tryz.pinned (.plain (OpenSpec.ofChange papersComparedSpec)) papersComparedCard

/-- THE SECOND FORM's CARD OF 'committeelaw2.PapersCompared'. -/
def papersComparedUptoCard : Claim7 := { stood := { row := papersComparedUptoRow, standIns := [], harness := (true, "4d9aaeb5ea8ae67e9afadd79ade533b5d9ef845561fb88ce5f5f1d86029b7da0"), looks := false }, kinds := [], alts := [], laidByText := true, laidKinds := [.data, .pinned], laidTests := true, laidLooks := .later }
def PapersComparedUptoCardSaid : Prop := Claim7.holds Tryz.pinned (.plain (OpenSpec.upto papersComparedSpec)) papersComparedUptoCard
end Rows
end Go.Proofs.YtmihbfmlnfhgcadGreatDoor
