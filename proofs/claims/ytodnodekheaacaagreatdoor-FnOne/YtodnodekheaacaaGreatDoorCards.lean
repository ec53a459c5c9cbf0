/-
  DERIVED. GIVEN WITH THE SEED: THE CARDS: each row of YtodnodekheaacaaGreatDoorRows.lean that lists a variable, with what it lists TIED to the program's text (the seventh form; the later family's looks); each row that meets fmt, with fmt's text TOLD by the authors' own Lean function (tested against real Go, not proved from fmt's source: count such statements apart). THE CARD IS WHAT COUNTS. Prove the row's statement (the work); the ties are given (YtodnodekheaacaaGreatDoorTie.lean); close each card by the builder's one call (the guide's Derived/Test/ToyasCard.lean, 'card_holds'). Laid BY PROGRAM, IN A SANDBOX (cutbox-door.mjs). By AI agents, Wed Nov 11 2026. No macro, syntax, notation, axiom, sorry.
-/
import Derived.Test.YtodnodekheaacaaGreatDoorRows
import GoSem.ClaimSeven
namespace Go.Proofs.YtodnodekheaacaaGreatDoor
namespace Rows

/-- THE TIED CARD OF 'laws.FnOne'. -/
def fnOneCard : Claim7 := { stood := { row := fnOneRow, standIns := [], harness := (true, "383ab4af53923ec0cb97a1ec1014b910c42e5eb080b2ceeea2550c2034a8dfbf"), looks := true }, kinds := [], alts := [], laidByText := true, laidKinds := [.handle], laidTests := true, laidLooks := .later }
def FnOneCardSaid : Prop := Claim7.holds Tryz.pinned (.plain (OpenSpec.ofChange fnOneSpec)) fnOneCard

/-- THE TIED CARD OF 'laws.FnRegain'. -/
def fnRegainCard : Claim7 := { stood := { row := fnRegainRow, standIns := [], harness := (true, "383ab4af53923ec0cb97a1ec1014b910c42e5eb080b2ceeea2550c2034a8dfbf"), looks := true }, kinds := [], alts := [], laidByText := true, laidKinds := [.handle], laidTests := true, laidLooks := .later }
def FnRegainCardSaid : Prop := Claim7.holds Tryz.pinned (.plain (OpenSpec.ofChange fnRegainSpec)) fnRegainCard

/-- THE SECOND FORM's CARD OF 'laws.FnOne'. -/
def fnOneUptoCard : Claim7 := { stood := { row := fnOneUptoRow, standIns := [], harness := (true, "383ab4af53923ec0cb97a1ec1014b910c42e5eb080b2ceeea2550c2034a8dfbf"), looks := true }, kinds := [], alts := [], laidByText := true, laidKinds := [.handle], laidTests := true, laidLooks := .later }
def FnOneUptoCardSaid : Prop := Claim7.holds Tryz.pinned (.plain (OpenSpec.upto fnOneSpec)) fnOneUptoCard

/-- THE SECOND FORM's CARD OF 'laws.FnRegain'. -/
def fnRegainUptoCard : Claim7 := { stood := { row := fnRegainUptoRow, standIns := [], harness := (true, "383ab4af53923ec0cb97a1ec1014b910c42e5eb080b2ceeea2550c2034a8dfbf"), looks := true }, kinds := [], alts := [], laidByText := true, laidKinds := [.handle], laidTests := true, laidLooks := .later }
def FnRegainUptoCardSaid : Prop := Claim7.holds Tryz.pinned (.plain (OpenSpec.upto fnRegainSpec)) fnRegainUptoCard
end Rows
end Go.Proofs.YtodnodekheaacaaGreatDoor
