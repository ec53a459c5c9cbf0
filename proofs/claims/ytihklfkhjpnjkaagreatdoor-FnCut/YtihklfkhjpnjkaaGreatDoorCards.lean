/-
  DERIVED. GIVEN WITH THE SEED: THE CARDS: each row of YtihklfkhjpnjkaaGreatDoorRows.lean that lists a variable, with what it lists TIED to the program's text (the seventh form; the later family's looks); each row that meets fmt, with fmt's text TOLD by the authors' own Lean function (tested against real Go, not proved from fmt's source: count such statements apart). THE CARD IS WHAT COUNTS. Prove the row's statement (the work); the ties are given (YtihklfkhjpnjkaaGreatDoorTie.lean); close each card by the builder's one call (the guide's Derived/Test/ToyasCard.lean, 'card_holds'). Laid BY PROGRAM, IN A SANDBOX (cutbox-door.mjs). By AI agents, Wed Nov 11 2026. No macro, syntax, notation, axiom, sorry.
-/
import Derived.Test.YtihklfkhjpnjkaaGreatDoorRows
import GoSem.ClaimSeven
namespace Go.Proofs.YtihklfkhjpnjkaaGreatDoor
namespace Rows

/-- THE TIED CARD OF 'laws.FnCut'. -/
def fnCutCard : Claim7 := { stood := { row := fnCutRow, standIns := [], harness := (true, "12c1c8428059899fcd8e5b3b1861f7a31213302cb92f61114e1132334951f4fb"), looks := true }, kinds := [], alts := [], laidByText := true, laidKinds := [.data, .data, .data, .data, .handle, .sentinel, .sentinel, .pinned], laidTests := true, laidLooks := .later }
def FnCutCardSaid : Prop := Claim7.holds Tryz.pinned (.plain (OpenSpec.ofChange fnCutSpec)) fnCutCard

/-- THE TIED CARD OF 'laws.FnPieceText'. -/
def fnPieceTextCard : Claim7 := { stood := { row := fnPieceTextRow, standIns := [], harness := (true, "12c1c8428059899fcd8e5b3b1861f7a31213302cb92f61114e1132334951f4fb"), looks := true }, kinds := [], alts := [], laidByText := true, laidKinds := [.data, .data, .data, .data, .handle, .sentinel, .sentinel, .pinned], laidTests := true, laidLooks := .later }
def FnPieceTextCardSaid : Prop := Claim7.holds Tryz.pinned (.plain (OpenSpec.ofChange fnPieceTextSpec)) fnPieceTextCard

/-- THE TIED CARD OF 'laws.FnExactReadPiece'. -/
def fnExactReadPieceCard : Claim7 := { stood := { row := fnExactReadPieceRow, standIns := [], harness := (true, "12c1c8428059899fcd8e5b3b1861f7a31213302cb92f61114e1132334951f4fb"), looks := true }, kinds := [], alts := [], laidByText := true, laidKinds := [.data, .data, .data, .data, .handle, .sentinel, .sentinel, .pinned], laidTests := true, laidLooks := .later }
def FnExactReadPieceCardSaid : Prop := Claim7.holds Tryz.pinned (.plain (OpenSpec.ofChange fnExactReadPieceSpec)) fnExactReadPieceCard

/-- THE SECOND FORM's CARD OF 'laws.FnCut'. -/
def fnCutUptoCard : Claim7 := { stood := { row := fnCutUptoRow, standIns := [], harness := (true, "12c1c8428059899fcd8e5b3b1861f7a31213302cb92f61114e1132334951f4fb"), looks := true }, kinds := [], alts := [], laidByText := true, laidKinds := [.data, .data, .data, .data, .handle, .sentinel, .sentinel, .pinned], laidTests := true, laidLooks := .later }
def FnCutUptoCardSaid : Prop := Claim7.holds Tryz.pinned (.plain (OpenSpec.upto fnCutSpec)) fnCutUptoCard

/-- THE SECOND FORM's CARD OF 'laws.FnPieceText'. -/
def fnPieceTextUptoCard : Claim7 := { stood := { row := fnPieceTextUptoRow, standIns := [], harness := (true, "12c1c8428059899fcd8e5b3b1861f7a31213302cb92f61114e1132334951f4fb"), looks := true }, kinds := [], alts := [], laidByText := true, laidKinds := [.data, .data, .data, .data, .handle, .sentinel, .sentinel, .pinned], laidTests := true, laidLooks := .later }
def FnPieceTextUptoCardSaid : Prop := Claim7.holds Tryz.pinned (.plain (OpenSpec.upto fnPieceTextSpec)) fnPieceTextUptoCard

/-- THE SECOND FORM's CARD OF 'laws.FnExactReadPiece'. -/
def fnExactReadPieceUptoCard : Claim7 := { stood := { row := fnExactReadPieceUptoRow, standIns := [], harness := (true, "12c1c8428059899fcd8e5b3b1861f7a31213302cb92f61114e1132334951f4fb"), looks := true }, kinds := [], alts := [], laidByText := true, laidKinds := [.data, .data, .data, .data, .handle, .sentinel, .sentinel, .pinned], laidTests := true, laidLooks := .later }
def FnExactReadPieceUptoCardSaid : Prop := Claim7.holds Tryz.pinned (.plain (OpenSpec.upto fnExactReadPieceSpec)) fnExactReadPieceUptoCard
end Rows
end Go.Proofs.YtihklfkhjpnjkaaGreatDoor
