/-
  DERIVED. GIVEN WITH THE SEED: THE CARDS: each row of YtjlbohbkhfhkpaaGreatDoorRows.lean that lists a variable, with what it lists TIED to the program's text (the seventh form; the later family's looks); each row that meets fmt, with fmt's text TOLD by the authors' own Lean function (tested against real Go, not proved from fmt's source: count such statements apart). THE CARD IS WHAT COUNTS. Prove the row's statement (the work); the ties are given (YtjlbohbkhfhkpaaGreatDoorTie.lean); close each card by the builder's one call (the guide's Derived/Test/ToyasCard.lean, 'card_holds'). Laid BY PROGRAM, IN A SANDBOX (cutbox-door.mjs). By AI agents, Wed Nov 11 2026. No macro, syntax, notation, axiom, sorry.
-/
import Derived.Test.YtjlbohbkhfhkpaaGreatDoorRows
import GoSem.ClaimSeven
namespace Go.Proofs.YtjlbohbkhfhkpaaGreatDoor
namespace Rows

/-- THE TIED CARD OF 'committeelaw1.SkillsLearnt'. -/
def skillsLearntCard : Claim7 := { stood := { row := skillsLearntRow, standIns := [], harness := (true, "c29b7668c18fbd553d5f5c87ab846412ab6081a13c20be94c277849cd20b9a34"), looks := false }, kinds := [], alts := [], laidByText := true, laidKinds := [.data, .pinned], laidTests := true, laidLooks := .later }
def SkillsLearntCardSaid : Prop := Claim7.holds Tryz.pinned (.plain (OpenSpec.ofChange skillsLearntSpec)) skillsLearntCard

/-- THE SECOND FORM's CARD OF 'committeelaw1.SkillsLearnt'. -/
def skillsLearntUptoCard : Claim7 := { stood := { row := skillsLearntUptoRow, standIns := [], harness := (true, "c29b7668c18fbd553d5f5c87ab846412ab6081a13c20be94c277849cd20b9a34"), looks := false }, kinds := [], alts := [], laidByText := true, laidKinds := [.data, .pinned], laidTests := true, laidLooks := .later }
def SkillsLearntUptoCardSaid : Prop := Claim7.holds Tryz.pinned (.plain (OpenSpec.upto skillsLearntSpec)) skillsLearntUptoCard
end Rows
end Go.Proofs.YtjlbohbkhfhkpaaGreatDoor
