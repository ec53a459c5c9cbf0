/-
  DERIVED. GIVEN WITH THE SEED: THE CARDS: each row of YtpempddpenpbhaaDoorRows.lean that lists a variable, with what it lists TIED to the program's text (the seventh form; the later family's looks); each row that meets fmt, with fmt's text TOLD by the authors' own Lean function (tested against real Go, not proved from fmt's source: count such statements apart). THE CARD IS WHAT COUNTS. Prove the row's statement (the work); the ties are given (YtpempddpenpbhaaDoorTie.lean); close each card by the builder's one call (the guide's Derived/Test/ToyasCard.lean, 'card_holds'). Laid BY PROGRAM, IN A SANDBOX (cutbox-door.mjs). By AI agents, Wed Nov 11 2026. No macro, syntax, notation, axiom, sorry.
-/
import Derived.Test.YtpempddpenpbhaaDoorRows
import GoSem.ClaimSeven
namespace Go.Proofs.YtpempddpenpbhaaDoor
namespace Rows

/-- THE TIED CARD OF 'laws.FnExactExpect'. -/
def fnExactExpectCard : Claim7 := { stood := { row := fnExactExpectRow, standIns := [], harness := (true, "f558e4aff90d1b74661eca05d5ca600af4bf6b4d58512b6f20262d1b2900c5b1"), looks := false }, kinds := [], alts := [], laidByText := true, laidKinds := [.data, .data, .data], laidTests := true, laidLooks := .later }
def FnExactExpectCardSaid : Prop := Claim7.holds Tryd.pinned (.plain (OpenSpec.ofChange fnExactExpectSpec)) fnExactExpectCard

/-- THE SECOND FORM's CARD OF 'laws.FnExactExpect'. -/
def fnExactExpectUptoCard : Claim7 := { stood := { row := fnExactExpectUptoRow, standIns := [], harness := (true, "f558e4aff90d1b74661eca05d5ca600af4bf6b4d58512b6f20262d1b2900c5b1"), looks := false }, kinds := [], alts := [], laidByText := true, laidKinds := [.data, .data, .data], laidTests := true, laidLooks := .later }
def FnExactExpectUptoCardSaid : Prop := Claim7.holds Tryd.pinned (.plain (OpenSpec.upto fnExactExpectSpec)) fnExactExpectUptoCard
end Rows
end Go.Proofs.YtpempddpenpbhaaDoor
