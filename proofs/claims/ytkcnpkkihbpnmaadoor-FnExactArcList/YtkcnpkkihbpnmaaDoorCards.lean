/-
  DERIVED. GIVEN WITH THE SEED: THE CARDS: each row of YtkcnpkkihbpnmaaDoorRows.lean that lists a variable, with what it lists TIED to the program's text (the seventh form; the later family's looks); each row that meets fmt, with fmt's text TOLD by the authors' own Lean function (tested against real Go, not proved from fmt's source: count such statements apart). THE CARD IS WHAT COUNTS. Prove the row's statement (the work); the ties are given (YtkcnpkkihbpnmaaDoorTie.lean); close each card by the builder's one call (the guide's Derived/Test/ToyasCard.lean, 'card_holds'). Laid BY PROGRAM, IN A SANDBOX (cutbox-door.mjs). By AI agents, Wed Nov 11 2026. No macro, syntax, notation, axiom, sorry.
-/
import Derived.Test.YtkcnpkkihbpnmaaDoorRows
import GoSem.ClaimSeven
namespace Go.Proofs.YtkcnpkkihbpnmaaDoor
namespace Rows

/-- THE TIED CARD OF 'laws.FnExactArcList'. -/
def fnExactArcListCard : Claim7 := { stood := { row := fnExactArcListRow, standIns := [], harness := (true, "d726e98a37822a1eb527e8817b67e4c7f917ef35ece1b7f0e6f439d84d75162c"), looks := false }, kinds := [], alts := [], laidByText := true, laidKinds := [.data, .data, .data], laidTests := true, laidLooks := .later }
def FnExactArcListCardSaid : Prop := Claim7.holds Tryd.pinned (.plain (OpenSpec.ofChange fnExactArcListSpec)) fnExactArcListCard

/-- THE SECOND FORM's CARD OF 'laws.FnExactArcList'. -/
def fnExactArcListUptoCard : Claim7 := { stood := { row := fnExactArcListUptoRow, standIns := [], harness := (true, "d726e98a37822a1eb527e8817b67e4c7f917ef35ece1b7f0e6f439d84d75162c"), looks := false }, kinds := [], alts := [], laidByText := true, laidKinds := [.data, .data, .data], laidTests := true, laidLooks := .later }
def FnExactArcListUptoCardSaid : Prop := Claim7.holds Tryd.pinned (.plain (OpenSpec.upto fnExactArcListSpec)) fnExactArcListUptoCard
end Rows
end Go.Proofs.YtkcnpkkihbpnmaaDoor
