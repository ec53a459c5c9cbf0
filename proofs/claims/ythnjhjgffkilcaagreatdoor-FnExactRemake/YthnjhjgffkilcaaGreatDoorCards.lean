/-
  DERIVED. GIVEN WITH THE SEED: THE CARDS: each row of YthnjhjgffkilcaaGreatDoorRows.lean that lists a variable, with what it lists TIED to the program's text (the seventh form; the later family's looks); each row that meets fmt, with fmt's text TOLD by the authors' own Lean function (tested against real Go, not proved from fmt's source: count such statements apart). THE CARD IS WHAT COUNTS. Prove the row's statement (the work); the ties are given (YthnjhjgffkilcaaGreatDoorTie.lean); close each card by the builder's one call (the guide's Derived/Test/ToyasCard.lean, 'card_holds'). Laid BY PROGRAM, IN A SANDBOX (cutbox-door.mjs). By AI agents, Wed Nov 11 2026. No macro, syntax, notation, axiom, sorry.
-/
import Derived.Test.YthnjhjgffkilcaaGreatDoorRows
import GoSem.ClaimSeven
namespace Go.Proofs.YthnjhjgffkilcaaGreatDoor
namespace Rows

/-- THE TIED CARD OF 'laws.FnCut'. -/
def fnCutCard : Claim7 := { stood := { row := fnCutRow, standIns := [], harness := (true, "71785493de87ff41c7e03d6f2b72fabf880eb5d68c9ed53afd7b8e2baec9ab65"), looks := true }, kinds := [], alts := [], laidByText := true, laidKinds := [.data, .data, .data, .data, .handle, .sentinel, .sentinel, .pinned], laidTests := true, laidLooks := .later }
def FnCutCardSaid : Prop := Claim7.holds Tryz.pinned (.plain (OpenSpec.ofChange fnCutSpec)) fnCutCard

/-- THE TIED CARD OF 'laws.FnPieceText'. -/
def fnPieceTextCard : Claim7 := { stood := { row := fnPieceTextRow, standIns := [], harness := (true, "71785493de87ff41c7e03d6f2b72fabf880eb5d68c9ed53afd7b8e2baec9ab65"), looks := true }, kinds := [], alts := [], laidByText := true, laidKinds := [.data, .data, .data, .data, .handle, .sentinel, .sentinel, .pinned], laidTests := true, laidLooks := .later }
def FnPieceTextCardSaid : Prop := Claim7.holds Tryz.pinned (.plain (OpenSpec.ofChange fnPieceTextSpec)) fnPieceTextCard

/-- THE TIED CARD OF 'laws.FnOne'. -/
def fnOneCard : Claim7 := { stood := { row := fnOneRow, standIns := [], harness := (true, "71785493de87ff41c7e03d6f2b72fabf880eb5d68c9ed53afd7b8e2baec9ab65"), looks := true }, kinds := [], alts := [], laidByText := true, laidKinds := [.handle], laidTests := true, laidLooks := .later }
def FnOneCardSaid : Prop := Claim7.holds Tryz.pinned (.plain (OpenSpec.ofChange fnOneSpec)) fnOneCard

/-- THE TIED CARD OF 'laws.FnRegain'. -/
def fnRegainCard : Claim7 := { stood := { row := fnRegainRow, standIns := [], harness := (true, "71785493de87ff41c7e03d6f2b72fabf880eb5d68c9ed53afd7b8e2baec9ab65"), looks := true }, kinds := [], alts := [], laidByText := true, laidKinds := [.handle], laidTests := true, laidLooks := .later }
def FnRegainCardSaid : Prop := Claim7.holds Tryz.pinned (.plain (OpenSpec.ofChange fnRegainSpec)) fnRegainCard

/-- THE TIED CARD OF 'laws.FnExactRegain'. -/
def fnExactRegainCard : Claim7 := { stood := { row := fnExactRegainRow, standIns := [], harness := (true, "71785493de87ff41c7e03d6f2b72fabf880eb5d68c9ed53afd7b8e2baec9ab65"), looks := true }, kinds := [], alts := [], laidByText := true, laidKinds := [.handle], laidTests := true, laidLooks := .later }
def FnExactRegainCardSaid : Prop := Claim7.holds Tryz.pinned (.plain (OpenSpec.ofChange fnExactRegainSpec)) fnExactRegainCard

/-- THE TIED CARD OF 'laws.FnExactRemake'. -/
def fnExactRemakeCard : Claim7 := { stood := { row := fnExactRemakeRow, standIns := [], harness := (true, "71785493de87ff41c7e03d6f2b72fabf880eb5d68c9ed53afd7b8e2baec9ab65"), looks := true }, kinds := [], alts := [], laidByText := true, laidKinds := [.handle], laidTests := true, laidLooks := .later }
def FnExactRemakeCardSaid : Prop := Claim7.holds Tryz.pinned (.plain (OpenSpec.ofChange fnExactRemakeSpec)) fnExactRemakeCard

/-- THE TIED CARD OF 'laws.FnExactReadPiece'. -/
def fnExactReadPieceCard : Claim7 := { stood := { row := fnExactReadPieceRow, standIns := [], harness := (true, "71785493de87ff41c7e03d6f2b72fabf880eb5d68c9ed53afd7b8e2baec9ab65"), looks := true }, kinds := [], alts := [], laidByText := true, laidKinds := [.data, .data, .data, .data, .handle, .sentinel, .sentinel, .pinned], laidTests := true, laidLooks := .later }
def FnExactReadPieceCardSaid : Prop := Claim7.holds Tryz.pinned (.plain (OpenSpec.ofChange fnExactReadPieceSpec)) fnExactReadPieceCard

/-- THE SECOND FORM's CARD OF 'laws.FnCut'. -/
def fnCutUptoCard : Claim7 := { stood := { row := fnCutUptoRow, standIns := [], harness := (true, "71785493de87ff41c7e03d6f2b72fabf880eb5d68c9ed53afd7b8e2baec9ab65"), looks := true }, kinds := [], alts := [], laidByText := true, laidKinds := [.data, .data, .data, .data, .handle, .sentinel, .sentinel, .pinned], laidTests := true, laidLooks := .later }
def FnCutUptoCardSaid : Prop := Claim7.holds Tryz.pinned (.plain (OpenSpec.upto fnCutSpec)) fnCutUptoCard

/-- THE SECOND FORM's CARD OF 'laws.FnPieceText'. -/
def fnPieceTextUptoCard : Claim7 := { stood := { row := fnPieceTextUptoRow, standIns := [], harness := (true, "71785493de87ff41c7e03d6f2b72fabf880eb5d68c9ed53afd7b8e2baec9ab65"), looks := true }, kinds := [], alts := [], laidByText := true, laidKinds := [.data, .data, .data, .data, .handle, .sentinel, .sentinel, .pinned], laidTests := true, laidLooks := .later }
def FnPieceTextUptoCardSaid : Prop := Claim7.holds Tryz.pinned (.plain (OpenSpec.upto fnPieceTextSpec)) fnPieceTextUptoCard

/-- THE SECOND FORM's CARD OF 'laws.FnOne'. -/
def fnOneUptoCard : Claim7 := { stood := { row := fnOneUptoRow, standIns := [], harness := (true, "71785493de87ff41c7e03d6f2b72fabf880eb5d68c9ed53afd7b8e2baec9ab65"), looks := true }, kinds := [], alts := [], laidByText := true, laidKinds := [.handle], laidTests := true, laidLooks := .later }
def FnOneUptoCardSaid : Prop := Claim7.holds Tryz.pinned (.plain (OpenSpec.upto fnOneSpec)) fnOneUptoCard

/-- THE SECOND FORM's CARD OF 'laws.FnRegain'. -/
def fnRegainUptoCard : Claim7 := { stood := { row := fnRegainUptoRow, standIns := [], harness := (true, "71785493de87ff41c7e03d6f2b72fabf880eb5d68c9ed53afd7b8e2baec9ab65"), looks := true }, kinds := [], alts := [], laidByText := true, laidKinds := [.handle], laidTests := true, laidLooks := .later }
def FnRegainUptoCardSaid : Prop := Claim7.holds Tryz.pinned (.plain (OpenSpec.upto fnRegainSpec)) fnRegainUptoCard

/-- THE SECOND FORM's CARD OF 'laws.FnExactRegain'. -/
def fnExactRegainUptoCard : Claim7 := { stood := { row := fnExactRegainUptoRow, standIns := [], harness := (true, "71785493de87ff41c7e03d6f2b72fabf880eb5d68c9ed53afd7b8e2baec9ab65"), looks := true }, kinds := [], alts := [], laidByText := true, laidKinds := [.handle], laidTests := true, laidLooks := .later }
def FnExactRegainUptoCardSaid : Prop := Claim7.holds Tryz.pinned (.plain (OpenSpec.upto fnExactRegainSpec)) fnExactRegainUptoCard

/-- THE SECOND FORM's CARD OF 'laws.FnExactRemake'. -/
def fnExactRemakeUptoCard : Claim7 := { stood := { row := fnExactRemakeUptoRow, standIns := [], harness := (true, "71785493de87ff41c7e03d6f2b72fabf880eb5d68c9ed53afd7b8e2baec9ab65"), looks := true }, kinds := [], alts := [], laidByText := true, laidKinds := [.handle], laidTests := true, laidLooks := .later }
def FnExactRemakeUptoCardSaid : Prop := Claim7.holds Tryz.pinned (.plain (OpenSpec.upto fnExactRemakeSpec)) fnExactRemakeUptoCard

/-- THE SECOND FORM's CARD OF 'laws.FnExactReadPiece'. -/
def fnExactReadPieceUptoCard : Claim7 := { stood := { row := fnExactReadPieceUptoRow, standIns := [], harness := (true, "71785493de87ff41c7e03d6f2b72fabf880eb5d68c9ed53afd7b8e2baec9ab65"), looks := true }, kinds := [], alts := [], laidByText := true, laidKinds := [.data, .data, .data, .data, .handle, .sentinel, .sentinel, .pinned], laidTests := true, laidLooks := .later }
def FnExactReadPieceUptoCardSaid : Prop := Claim7.holds Tryz.pinned (.plain (OpenSpec.upto fnExactReadPieceSpec)) fnExactReadPieceUptoCard
end Rows
end Go.Proofs.YthnjhjgffkilcaaGreatDoor
