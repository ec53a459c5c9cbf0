/-
  No cell of these rows narrows 'for every input' (looked for: loops, veiled, ifaces, maps, wideKeys, modest, calm, conditions, laid).
  DERIVED. THE GIVEN ROWS OF THIS SEAT. 4 by the template 'for every input the law returns true; each argument reads behind the call as it read before'; 0 by the template 'total and deterministic' (their statements: YtggmcgcmpgofcaaTotals.lean).
  GIVEN WITH THE SEED: the statements are not yours to turn. If you find one false, say at which input.
  Laid BY PROGRAM, IN A SANDBOX (cutbox-rows.mjs): the forced cells as the released guide's own fill.sh prints them over the translation f6606a1eea0c971e… (all of the seat's roots in one cut). By AI agents, Wed Nov 11 2026. No macro, syntax, notation, axiom, sorry.
-/
import Derived.Test.YtggmcgcmpgofcaaChecked
import GoSem.Claim
import GoSem.ClaimJoined
import GoSem.ClaimMapViews
import Derived.JoinedTies
import Derived.KernelRfl
namespace Go.Proofs.Ytggmcgcmpgofcaa
/- THE CELL 'sum', in the pinned program and in every row, IS THE sha256 OF THE DUMP (.gsa) THAT YtggmcgcmpgofcaaProg.lean LOADS. Nothing in Lean hashes anything: it is a label: what it is worth is what the hold of that sum in a sandbox is worth. -/
noncomputable def Try.pinned : Pinned := { name := "ytggmcgcmpgofcaa", sum := "f6606a1eea0c971ed475c124853af3a6ea2c50a53b38968c297ca9fe1147735f", checked := Try.checked }
namespace Rows
def none {H : Type} : Left H := { results := [], args := [] }

/-- 'laws.FnExactSuspects': WHATEVER THE INPUT: true; the input reads as it did. -/
def fnExactSuspectsSpec : ChangeSpec := { name := "fnExactSuspects", fn := fun _ => fun
  | [d1, d2] => { results := [.lit (.bool true)], args := [d1, d2] }
  | _ => none }
def fnExactSuspectsRow : OpenClaim := { program := "ytggmcgcmpgofcaa", sum := "f6606a1eea0c971ed475c124853af3a6ea2c50a53b38968c297ca9fe1147735f", func := "loop.example/g00210/laws.FnExactSuspects", spec := "fnExactSuspects", plainKeys := false, apart := false }
def FnExactSuspectsSaid : Prop := fnExactSuspectsRow.holds Try.pinned (OpenSpec.ofChange fnExactSuspectsSpec)

/-- ITS FALSE NEIGHBOUR: 'it returns false'. Refute it at one input. -/
def fnExactSuspectsWrong : ChangeSpec := { name := "fnExactSuspects", fn := fun _ => fun
  | [d1, d2] => { results := [.lit (.bool false)], args := [d1, d2] }
  | _ => none }
def FnExactSuspectsWrongFalsely : Prop := fnExactSuspectsRow.holds Try.pinned (OpenSpec.ofChange fnExactSuspectsWrong)

/-- 'laws.FnExactNetStart': WHATEVER THE INPUT: true; the input reads as it did. -/
def fnExactNetStartSpec : ChangeSpec := { name := "fnExactNetStart", fn := fun _ => fun
  | [d1, d2] => { results := [.lit (.bool true)], args := [d1, d2] }
  | _ => none }
def fnExactNetStartRow : OpenClaim := { program := "ytggmcgcmpgofcaa", sum := "f6606a1eea0c971ed475c124853af3a6ea2c50a53b38968c297ca9fe1147735f", func := "loop.example/g00210/laws.FnExactNetStart", spec := "fnExactNetStart", plainKeys := false, apart := false }
def FnExactNetStartSaid : Prop := fnExactNetStartRow.holds Try.pinned (OpenSpec.ofChange fnExactNetStartSpec)

/-- ITS FALSE NEIGHBOUR: 'it returns false'. Refute it at one input. -/
def fnExactNetStartWrong : ChangeSpec := { name := "fnExactNetStart", fn := fun _ => fun
  | [d1, d2] => { results := [.lit (.bool false)], args := [d1, d2] }
  | _ => none }
def FnExactNetStartWrongFalsely : Prop := fnExactNetStartRow.holds Try.pinned (OpenSpec.ofChange fnExactNetStartWrong)

/-- 'laws.FnExactNetDone': WHATEVER THE INPUT: true; the input reads as it did. -/
def fnExactNetDoneSpec : ChangeSpec := { name := "fnExactNetDone", fn := fun _ => fun
  | [d1, d2] => { results := [.lit (.bool true)], args := [d1, d2] }
  | _ => none }
def fnExactNetDoneRow : OpenClaim := { program := "ytggmcgcmpgofcaa", sum := "f6606a1eea0c971ed475c124853af3a6ea2c50a53b38968c297ca9fe1147735f", func := "loop.example/g00210/laws.FnExactNetDone", spec := "fnExactNetDone", unfollowed := true, recurses := true, plainKeys := false, apart := false }
def FnExactNetDoneSaid : Prop := fnExactNetDoneRow.holds Try.pinned (OpenSpec.ofChange fnExactNetDoneSpec)

/-- ITS FALSE NEIGHBOUR: 'it returns false'. Refute it at one input. -/
def fnExactNetDoneWrong : ChangeSpec := { name := "fnExactNetDone", fn := fun _ => fun
  | [d1, d2] => { results := [.lit (.bool false)], args := [d1, d2] }
  | _ => none }
def FnExactNetDoneWrongFalsely : Prop := fnExactNetDoneRow.holds Try.pinned (OpenSpec.ofChange fnExactNetDoneWrong)

/-- 'laws.FnExactNetPieces': WHATEVER THE INPUT: true; the input reads as it did. -/
def fnExactNetPiecesSpec : ChangeSpec := { name := "fnExactNetPieces", fn := fun _ => fun
  | [d1, d2] => { results := [.lit (.bool true)], args := [d1, d2] }
  | _ => none }
def fnExactNetPiecesRow : OpenClaim := { program := "ytggmcgcmpgofcaa", sum := "f6606a1eea0c971ed475c124853af3a6ea2c50a53b38968c297ca9fe1147735f", func := "loop.example/g00210/laws.FnExactNetPieces", spec := "fnExactNetPieces", unfollowed := true, recurses := true, plainKeys := false, apart := false }
def FnExactNetPiecesSaid : Prop := fnExactNetPiecesRow.holds Try.pinned (OpenSpec.ofChange fnExactNetPiecesSpec)

/-- ITS FALSE NEIGHBOUR: 'it returns false'. Refute it at one input. -/
def fnExactNetPiecesWrong : ChangeSpec := { name := "fnExactNetPieces", fn := fun _ => fun
  | [d1, d2] => { results := [.lit (.bool false)], args := [d1, d2] }
  | _ => none }
def FnExactNetPiecesWrongFalsely : Prop := fnExactNetPiecesRow.holds Try.pinned (OpenSpec.ofChange fnExactNetPiecesWrong)

/- THE SECOND FORM. 'bulk': how many values and letters a reading holds, each counted each time it is reached (what is shared counts as often as it is met; a slice's spare places count too). A statement '..UptoSaid' is the law's where the arguments, and the package variables that the reading takes, are together of bulk at most 1048576: NARROWER than '..Said'. Prove '..Said' where nothing that the law and all that it calls make is longer than what came in: it says more and counts as full. Else prove '..UptoSaid'. A law counts once. -/
mutual
def uptoBulk {H : Type} : DataW H → Nat
  | .lit (.string bytes) => bytes.length + 1
  | .lit _ => 1
  | .nil => 1
  | .ptr d => uptoBulk d + 1
  | .slice elems spare => uptoBulkAll elems + uptoBulkAll spare + 1
  | .agg parts => uptoBulkAll parts + 1
  | .iface _ d => uptoBulk d + 1
  | .map entries => uptoBulkEntries entries + 1
  | .held _ => 1
def uptoBulkAll {H : Type} : List (DataW H) → Nat
  | [] => 0
  | d :: r => uptoBulk d + uptoBulkAll r
def uptoBulkEntries {H : Type} : List (Lit × DataW H) → Nat
  | [] => 0
  | x :: r => uptoBulkEntry x + uptoBulkEntries r
def uptoBulkEntry {H : Type} : Lit × DataW H → Nat
  | (.string bytes, d) => bytes.length + uptoBulk d + 1
  | (_, d) => uptoBulk d + 1
 end
def uptoSmall : (H : Type) → List (DataW H) → Bool := fun _ ds => decide (uptoBulkAll ds ≤ 1048576)
def OpenSpec.upto (s : _root_.Go.ChangeSpec) : _root_.Go.OpenSpec := { _root_.Go.OpenSpec.ofChange s with cond := some uptoSmall }

/-- 'laws.FnExactSuspects', WHERE WHAT IT READS IS OF BULK AT MOST 1048576: true; the input reads as it did. -/
def fnExactSuspectsUptoRow : OpenClaim := { program := "ytggmcgcmpgofcaa", sum := "f6606a1eea0c971ed475c124853af3a6ea2c50a53b38968c297ca9fe1147735f", func := "loop.example/g00210/laws.FnExactSuspects", spec := "fnExactSuspects", plainKeys := false, apart := false, narrowed := true }
def FnExactSuspectsUptoSaid : Prop := fnExactSuspectsUptoRow.holds Try.pinned (OpenSpec.upto fnExactSuspectsSpec)

/-- 'laws.FnExactNetStart', WHERE WHAT IT READS IS OF BULK AT MOST 1048576: true; the input reads as it did. -/
def fnExactNetStartUptoRow : OpenClaim := { program := "ytggmcgcmpgofcaa", sum := "f6606a1eea0c971ed475c124853af3a6ea2c50a53b38968c297ca9fe1147735f", func := "loop.example/g00210/laws.FnExactNetStart", spec := "fnExactNetStart", plainKeys := false, apart := false, narrowed := true }
def FnExactNetStartUptoSaid : Prop := fnExactNetStartUptoRow.holds Try.pinned (OpenSpec.upto fnExactNetStartSpec)

/-- 'laws.FnExactNetDone', WHERE WHAT IT READS IS OF BULK AT MOST 1048576: true; the input reads as it did. -/
def fnExactNetDoneUptoRow : OpenClaim := { program := "ytggmcgcmpgofcaa", sum := "f6606a1eea0c971ed475c124853af3a6ea2c50a53b38968c297ca9fe1147735f", func := "loop.example/g00210/laws.FnExactNetDone", spec := "fnExactNetDone", unfollowed := true, recurses := true, plainKeys := false, apart := false, narrowed := true }
def FnExactNetDoneUptoSaid : Prop := fnExactNetDoneUptoRow.holds Try.pinned (OpenSpec.upto fnExactNetDoneSpec)

/-- 'laws.FnExactNetPieces', WHERE WHAT IT READS IS OF BULK AT MOST 1048576: true; the input reads as it did. -/
def fnExactNetPiecesUptoRow : OpenClaim := { program := "ytggmcgcmpgofcaa", sum := "f6606a1eea0c971ed475c124853af3a6ea2c50a53b38968c297ca9fe1147735f", func := "loop.example/g00210/laws.FnExactNetPieces", spec := "fnExactNetPieces", unfollowed := true, recurses := true, plainKeys := false, apart := false, narrowed := true }
def FnExactNetPiecesUptoSaid : Prop := fnExactNetPiecesUptoRow.holds Try.pinned (OpenSpec.upto fnExactNetPiecesSpec)

end Rows
end Go.Proofs.Ytggmcgcmpgofcaa
