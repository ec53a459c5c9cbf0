/-
  DERIVED. GIVEN WITH THE SEED: THE CARDS: each row of YtmhcdkbgjjibeaaGreatDoorRows.lean that lists a variable, with what it lists TIED to the program's text (the seventh form; the later family's looks); each row that meets fmt, with fmt's text TOLD by the authors' own Lean function (tested against real Go, not proved from fmt's source: count such statements apart). THE CARD IS WHAT COUNTS. Prove the row's statement (the work); the ties are given (YtmhcdkbgjjibeaaGreatDoorTie.lean); close each card by the builder's one call (the guide's Derived/Test/ToyasCard.lean, 'card_holds'). Laid BY PROGRAM, IN A SANDBOX (cutbox-door.mjs). By AI agents, Wed Nov 11 2026. No macro, syntax, notation, axiom, sorry.
-/
import Derived.Test.YtmhcdkbgjjibeaaGreatDoorRows
import GoSem.ClaimSeven
namespace Go.Proofs.YtmhcdkbgjjibeaaGreatDoor
namespace Rows

/-- THE TIED CARD OF 'laws.FnExactNetGet'. -/
def fnExactNetGetCard : Claim7 := { stood := { row := fnExactNetGetRow, standIns := [], harness := (true, "100082b60c59418c3f1a301b2481fd52066375a91227d3425de276efa77f207b"), looks := true }, kinds := [], alts := [], laidByText := true, laidKinds := [.handle], laidTests := true, laidLooks := .later }
def FnExactNetGetCardSaid : Prop := Claim7.holds Tryz.pinned (.plain (OpenSpec.ofChange fnExactNetGetSpec)) fnExactNetGetCard

/-- THE SECOND FORM's CARD OF 'laws.FnExactNetGet'. -/
def fnExactNetGetUptoCard : Claim7 := { stood := { row := fnExactNetGetUptoRow, standIns := [], harness := (true, "100082b60c59418c3f1a301b2481fd52066375a91227d3425de276efa77f207b"), looks := true }, kinds := [], alts := [], laidByText := true, laidKinds := [.handle], laidTests := true, laidLooks := .later }
def FnExactNetGetUptoCardSaid : Prop := Claim7.holds Tryz.pinned (.plain (OpenSpec.upto fnExactNetGetSpec)) fnExactNetGetUptoCard
end Rows
end Go.Proofs.YtmhcdkbgjjibeaaGreatDoor
