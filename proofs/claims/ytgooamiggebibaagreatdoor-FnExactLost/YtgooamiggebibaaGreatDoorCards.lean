/-
  DERIVED. GIVEN WITH THE SEED: THE CARDS: each row of YtgooamiggebibaaGreatDoorRows.lean that lists a variable, with what it lists TIED to the program's text (the seventh form; the later family's looks); each row that meets fmt, with fmt's text TOLD by the authors' own Lean function (tested against real Go, not proved from fmt's source: count such statements apart). THE CARD IS WHAT COUNTS. Prove the row's statement (the work); the ties are given (YtgooamiggebibaaGreatDoorTie.lean); close each card by the builder's one call (the guide's Derived/Test/ToyasCard.lean, 'card_holds'). Laid BY PROGRAM, IN A SANDBOX (cutbox-door.mjs). By AI agents, Wed Nov 11 2026. No macro, syntax, notation, axiom, sorry.
-/
import Derived.Test.YtgooamiggebibaaGreatDoorRows
import GoSem.ClaimSeven
namespace Go.Proofs.YtgooamiggebibaaGreatDoor
namespace Rows

/-- THE TIED CARD OF 'laws.FnExactLost'. -/
def fnExactLostCard : Claim7 := { stood := { row := fnExactLostRow, standIns := [], harness := (true, "40783411094cab753ada00ae2b27714f49fc9f9685984620f9e920edf4e17bb4"), looks := true }, kinds := [], alts := [], laidByText := true, laidKinds := [.handle], laidTests := true, laidLooks := .later }
def FnExactLostCardSaid : Prop := Claim7.holds Tryz.pinned (.plain (OpenSpec.ofChange fnExactLostSpec)) fnExactLostCard

/-- THE SECOND FORM's CARD OF 'laws.FnExactLost'. -/
def fnExactLostUptoCard : Claim7 := { stood := { row := fnExactLostUptoRow, standIns := [], harness := (true, "40783411094cab753ada00ae2b27714f49fc9f9685984620f9e920edf4e17bb4"), looks := true }, kinds := [], alts := [], laidByText := true, laidKinds := [.handle], laidTests := true, laidLooks := .later }
def FnExactLostUptoCardSaid : Prop := Claim7.holds Tryz.pinned (.plain (OpenSpec.upto fnExactLostSpec)) fnExactLostUptoCard
end Rows
end Go.Proofs.YtgooamiggebibaaGreatDoor
