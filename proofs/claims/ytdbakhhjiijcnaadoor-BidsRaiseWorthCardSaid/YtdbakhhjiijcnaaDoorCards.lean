/-
  DERIVED. GIVEN WITH THE SEED: THE CARDS: each row of YtdbakhhjiijcnaaDoorRows.lean that lists a variable, with what it lists TIED to the program's text (the seventh form; the later family's looks); each row that meets fmt, with fmt's text TOLD by the authors' own Lean function (tested against real Go, not proved from fmt's source: count such statements apart). THE CARD IS WHAT COUNTS. Prove the row's statement (the work); the ties are given (YtdbakhhjiijcnaaDoorTie.lean); close each card by the builder's one call (the guide's Derived/Test/ToyasCard.lean, 'card_holds'). Laid BY PROGRAM, IN A SANDBOX (cutbox-door.mjs). By AI agents, Wed Nov 11 2026. No macro, syntax, notation, axiom, sorry.
-/
import Derived.Test.YtdbakhhjiijcnaaDoorRows
import GoSem.ClaimSeven
namespace Go.Proofs.YtdbakhhjiijcnaaDoor
namespace Rows

/-- THE TIED CARD OF 'committeekeep1.BidsRaiseWorth'. -/
def bidsRaiseWorthCard : Claim7 := { stood := { row := bidsRaiseWorthRow, standIns := [], harness := (true, "1513e745239a74d02dfa666a9350b16762678a703f70b608ab592f08abfdab7f"), looks := false }, kinds := [], alts := [], laidByText := true, laidKinds := [.data], laidTests := true, laidLooks := .later }
def BidsRaiseWorthCardSaid : Prop := Claim7.holds Tryd.pinned (.plain (OpenSpec.ofChange bidsRaiseWorthSpec)) bidsRaiseWorthCard

/-- THE SECOND FORM's CARD OF 'committeekeep1.BidsRaiseWorth'. -/
def bidsRaiseWorthUptoCard : Claim7 := { stood := { row := bidsRaiseWorthUptoRow, standIns := [], harness := (true, "1513e745239a74d02dfa666a9350b16762678a703f70b608ab592f08abfdab7f"), looks := false }, kinds := [], alts := [], laidByText := true, laidKinds := [.data], laidTests := true, laidLooks := .later }
def BidsRaiseWorthUptoCardSaid : Prop := Claim7.holds Tryd.pinned (.plain (OpenSpec.upto bidsRaiseWorthSpec)) bidsRaiseWorthUptoCard
end Rows
end Go.Proofs.YtdbakhhjiijcnaaDoor
