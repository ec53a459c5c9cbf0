/-
  DERIVED. GIVEN WITH THE SEED: THE CARDS: each row of YtpempddpenpbhaaGreatDoorRows.lean that lists a variable, with what it lists TIED to the program's text (the seventh form; the later family's looks); each row that meets fmt, with fmt's text TOLD by the authors' own Lean function (tested against real Go, not proved from fmt's source: count such statements apart). THE CARD IS WHAT COUNTS. Prove the row's statement (the work); the ties are given (YtpempddpenpbhaaGreatDoorTie.lean); close each card by the builder's one call (the guide's Derived/Test/ToyasCard.lean, 'card_holds'). Laid BY PROGRAM, IN A SANDBOX (cutbox-door.mjs). By AI agents, Wed Nov 11 2026. No macro, syntax, notation, axiom, sorry.
-/
import Derived.Test.YtpempddpenpbhaaGreatDoorRows
import GoSem.ClaimSeven
namespace Go.Proofs.YtpempddpenpbhaaGreatDoor
namespace Rows

/-- THE TIED CARD OF 'laws.FnExactRespond'. -/
def fnExactRespondCard : Claim7 := { stood := { row := fnExactRespondRow, standIns := [], harness := (true, "1b577bc236f7fc2c8ba1a7a095349c9f726240b8b60d20ad887e3f034e8779aa"), looks := false }, kinds := [], alts := [], laidByText := true, laidKinds := [.data, .data, .data], laidTests := true, laidLooks := .later }
def FnExactRespondCardSaid : Prop := Claim7.holds Tryz.pinned (.plain (OpenSpec.ofChange fnExactRespondSpec)) fnExactRespondCard

/-- THE SECOND FORM's CARD OF 'laws.FnExactRespond'. -/
def fnExactRespondUptoCard : Claim7 := { stood := { row := fnExactRespondUptoRow, standIns := [], harness := (true, "1b577bc236f7fc2c8ba1a7a095349c9f726240b8b60d20ad887e3f034e8779aa"), looks := false }, kinds := [], alts := [], laidByText := true, laidKinds := [.data, .data, .data], laidTests := true, laidLooks := .later }
def FnExactRespondUptoCardSaid : Prop := Claim7.holds Tryz.pinned (.plain (OpenSpec.upto fnExactRespondSpec)) fnExactRespondUptoCard
end Rows
end Go.Proofs.YtpempddpenpbhaaGreatDoor
