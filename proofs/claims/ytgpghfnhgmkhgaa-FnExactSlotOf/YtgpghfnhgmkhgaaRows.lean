/-
  No cell of these rows narrows 'for every input' (looked for: loops, veiled, ifaces, maps, wideKeys, modest, calm, conditions, laid).
  DERIVED. THE GIVEN ROWS OF THIS SEAT. 5 by the template 'for every input the law returns true; each argument reads behind the call as it read before'; 0 by the template 'total and deterministic' (their statements: YtgpghfnhgmkhgaaTotals.lean).
  GIVEN WITH THE SEED: the statements are not yours to turn. If you find one false, say at which input.
  Laid BY PROGRAM, IN A SANDBOX (cutbox-rows.mjs): the forced cells as the released guide's own fill.sh prints them over the translation 70756767eb5ab1af… (all of the seat's roots in one cut). By AI agents, Wed Nov 11 2026. No macro, syntax, notation, axiom, sorry.
-/
import Derived.Test.YtgpghfnhgmkhgaaChecked
import GoSem.Claim
import GoSem.ClaimJoined
import GoSem.ClaimMapViews
import Derived.JoinedTies
import Derived.KernelRfl
namespace Go.Proofs.Ytgpghfnhgmkhgaa
/- THE CELL 'sum', in the pinned program and in every row, IS THE sha256 OF THE DUMP (.gsa) THAT YtgpghfnhgmkhgaaProg.lean LOADS. Nothing in Lean hashes anything: it is a label: what it is worth is what the hold of that sum in a sandbox is worth. -/
noncomputable def Try.pinned : Pinned := { name := "ytgpghfnhgmkhgaa", sum := "70756767eb5ab1aff95178e23e2b39f10d294c404a2826cc8567178f69cbf8d0", checked := Try.checked }
namespace Rows
def none {H : Type} : Left H := { results := [], args := [] }

/-- 'laws.FnExactNodeOk': WHATEVER THE INPUT: true; the input reads as it did. -/
def fnExactNodeOkSpec : ChangeSpec := { name := "fnExactNodeOk", fn := fun _ => fun
  | [d] => { results := [.lit (.bool true)], args := [d] }
  | _ => none }
def fnExactNodeOkRow : OpenClaim := { program := "ytgpghfnhgmkhgaa", sum := "70756767eb5ab1aff95178e23e2b39f10d294c404a2826cc8567178f69cbf8d0", func := "loop.example/g00210/laws.FnExactNodeOk", spec := "fnExactNodeOk", unfollowed := true, recurses := true, plainKeys := false, apart := false }
def FnExactNodeOkSaid : Prop := fnExactNodeOkRow.holds Try.pinned (OpenSpec.ofChange fnExactNodeOkSpec)

/-- ITS FALSE NEIGHBOUR: 'it returns false'. Refute it at one input. -/
def fnExactNodeOkWrong : ChangeSpec := { name := "fnExactNodeOk", fn := fun _ => fun
  | [d] => { results := [.lit (.bool false)], args := [d] }
  | _ => none }
def FnExactNodeOkWrongFalsely : Prop := fnExactNodeOkRow.holds Try.pinned (OpenSpec.ofChange fnExactNodeOkWrong)

/-- 'laws.FnExactSlotOf': WHATEVER THE INPUT: true; the input reads as it did. -/
def fnExactSlotOfSpec : ChangeSpec := { name := "fnExactSlotOf", fn := fun _ => fun
  | [d1, d2] => { results := [.lit (.bool true)], args := [d1, d2] }
  | _ => none }
def fnExactSlotOfRow : OpenClaim := { program := "ytgpghfnhgmkhgaa", sum := "70756767eb5ab1aff95178e23e2b39f10d294c404a2826cc8567178f69cbf8d0", func := "loop.example/g00210/laws.FnExactSlotOf", spec := "fnExactSlotOf", unfollowed := true, recurses := true, plainKeys := false, apart := false }
def FnExactSlotOfSaid : Prop := fnExactSlotOfRow.holds Try.pinned (OpenSpec.ofChange fnExactSlotOfSpec)

/-- ITS FALSE NEIGHBOUR: 'it returns false'. Refute it at one input. -/
def fnExactSlotOfWrong : ChangeSpec := { name := "fnExactSlotOf", fn := fun _ => fun
  | [d1, d2] => { results := [.lit (.bool false)], args := [d1, d2] }
  | _ => none }
def FnExactSlotOfWrongFalsely : Prop := fnExactSlotOfRow.holds Try.pinned (OpenSpec.ofChange fnExactSlotOfWrong)

/-- 'laws.FnExactNetStart': WHATEVER THE INPUT: true; the input reads as it did. -/
def fnExactNetStartSpec : ChangeSpec := { name := "fnExactNetStart", fn := fun _ => fun
  | [d1, d2] => { results := [.lit (.bool true)], args := [d1, d2] }
  | _ => none }
def fnExactNetStartRow : OpenClaim := { program := "ytgpghfnhgmkhgaa", sum := "70756767eb5ab1aff95178e23e2b39f10d294c404a2826cc8567178f69cbf8d0", func := "loop.example/g00210/laws.FnExactNetStart", spec := "fnExactNetStart", plainKeys := false, apart := false }
def FnExactNetStartSaid : Prop := fnExactNetStartRow.holds Try.pinned (OpenSpec.ofChange fnExactNetStartSpec)

/-- ITS FALSE NEIGHBOUR: 'it returns false'. Refute it at one input. -/
def fnExactNetStartWrong : ChangeSpec := { name := "fnExactNetStart", fn := fun _ => fun
  | [d1, d2] => { results := [.lit (.bool false)], args := [d1, d2] }
  | _ => none }
def FnExactNetStartWrongFalsely : Prop := fnExactNetStartRow.holds Try.pinned (OpenSpec.ofChange fnExactNetStartWrong)

/-- 'laws.FnExactNetDone': WHATEVER THE INPUT: true; the input reads as it did. -/
def fnExactNetDoneSpec : ChangeSpec := { name := "fnExactNetDone", fn := fun _ => fun
  | [d1, d2] => { results := [.lit (.bool true)], args := [d1, d2] }
  | _ => none }
def fnExactNetDoneRow : OpenClaim := { program := "ytgpghfnhgmkhgaa", sum := "70756767eb5ab1aff95178e23e2b39f10d294c404a2826cc8567178f69cbf8d0", func := "loop.example/g00210/laws.FnExactNetDone", spec := "fnExactNetDone", unfollowed := true, recurses := true, plainKeys := false, apart := false }
def FnExactNetDoneSaid : Prop := fnExactNetDoneRow.holds Try.pinned (OpenSpec.ofChange fnExactNetDoneSpec)

/-- ITS FALSE NEIGHBOUR: 'it returns false'. Refute it at one input. -/
def fnExactNetDoneWrong : ChangeSpec := { name := "fnExactNetDone", fn := fun _ => fun
  | [d1, d2] => { results := [.lit (.bool false)], args := [d1, d2] }
  | _ => none }
def FnExactNetDoneWrongFalsely : Prop := fnExactNetDoneRow.holds Try.pinned (OpenSpec.ofChange fnExactNetDoneWrong)

/-- 'laws.FnExactNetPieces': WHATEVER THE INPUT: true; the input reads as it did. -/
def fnExactNetPiecesSpec : ChangeSpec := { name := "fnExactNetPieces", fn := fun _ => fun
  | [d1, d2] => { results := [.lit (.bool true)], args := [d1, d2] }
  | _ => none }
def fnExactNetPiecesRow : OpenClaim := { program := "ytgpghfnhgmkhgaa", sum := "70756767eb5ab1aff95178e23e2b39f10d294c404a2826cc8567178f69cbf8d0", func := "loop.example/g00210/laws.FnExactNetPieces", spec := "fnExactNetPieces", unfollowed := true, recurses := true, plainKeys := false, apart := false }
def FnExactNetPiecesSaid : Prop := fnExactNetPiecesRow.holds Try.pinned (OpenSpec.ofChange fnExactNetPiecesSpec)

/-- ITS FALSE NEIGHBOUR: 'it returns false'. Refute it at one input. -/
def fnExactNetPiecesWrong : ChangeSpec := { name := "fnExactNetPieces", fn := fun _ => fun
  | [d1, d2] => { results := [.lit (.bool false)], args := [d1, d2] }
  | _ => none }
def FnExactNetPiecesWrongFalsely : Prop := fnExactNetPiecesRow.holds Try.pinned (OpenSpec.ofChange fnExactNetPiecesWrong)

/- THE SECOND FORM. 'bulk': how many values and letters a reading holds, each counted each time it is reached (what is shared counts as often as it is met; a slice's spare places count too). A statement '..UptoSaid' is the law's where the arguments, and the package variables that the reading takes, are together of bulk at most 1048576: NARROWER than '..Said'. Prove '..Said' where nothing that the law and all that it calls make is longer than what came in: it says more and counts as full. Else prove '..UptoSaid'. A law counts once. -/
mutual
def uptoBulk {H : Type} : DataW H → Nat
  | .lit (.string bytes) => bytes.length + 1
  | .lit _ => 1
  | .nil => 1
  | .ptr d => uptoBulk d + 1
  | .slice elems spare => uptoBulkAll elems + uptoBulkAll spare + 1
  | .agg parts => uptoBulkAll parts + 1
  | .iface _ d => uptoBulk d + 1
  | .map entries => uptoBulkEntries entries + 1
  | .held _ => 1
def uptoBulkAll {H : Type} : List (DataW H) → Nat
  | [] => 0
  | d :: r => uptoBulk d + uptoBulkAll r
def uptoBulkEntries {H : Type} : List (Lit × DataW H) → Nat
  | [] => 0
  | x :: r => uptoBulkEntry x + uptoBulkEntries r
def uptoBulkEntry {H : Type} : Lit × DataW H → Nat
  | (.string bytes, d) => bytes.length + uptoBulk d + 1
  | (_, d) => uptoBulk d + 1
 end
def uptoSmall : (H : Type) → List (DataW H) → Bool := fun _ ds => decide (uptoBulkAll ds ≤ 1048576)
def OpenSpec.upto (s : _root_.Go.ChangeSpec) : _root_.Go.OpenSpec := { _root_.Go.OpenSpec.ofChange s with cond := some uptoSmall }

/-- 'laws.FnExactNodeOk', WHERE WHAT IT READS IS OF BULK AT MOST 1048576: true; the input reads as it did. -/
def fnExactNodeOkUptoRow : OpenClaim := { program := "ytgpghfnhgmkhgaa", sum := "70756767eb5ab1aff95178e23e2b39f10d294c404a2826cc8567178f69cbf8d0", func := "loop.example/g00210/laws.FnExactNodeOk", spec := "fnExactNodeOk", unfollowed := true, recurses := true, plainKeys := false, apart := false, narrowed := true }
def FnExactNodeOkUptoSaid : Prop := fnExactNodeOkUptoRow.holds Try.pinned (OpenSpec.upto fnExactNodeOkSpec)

/-- 'laws.FnExactSlotOf', WHERE WHAT IT READS IS OF BULK AT MOST 1048576: true; the input reads as it did. -/
def fnExactSlotOfUptoRow : OpenClaim := { program := "ytgpghfnhgmkhgaa", sum := "70756767eb5ab1aff95178e23e2b39f10d294c404a2826cc8567178f69cbf8d0", func := "loop.example/g00210/laws.FnExactSlotOf", spec := "fnExactSlotOf", unfollowed := true, recurses := true, plainKeys := false, apart := false, narrowed := true }
def FnExactSlotOfUptoSaid : Prop := fnExactSlotOfUptoRow.holds Try.pinned (OpenSpec.upto fnExactSlotOfSpec)

/-- 'laws.FnExactNetStart', WHERE WHAT IT READS IS OF BULK AT MOST 1048576: true; the input reads as it did. -/
def fnExactNetStartUptoRow : OpenClaim := { program := "ytgpghfnhgmkhgaa", sum := "70756767eb5ab1aff95178e23e2b39f10d294c404a2826cc8567178f69cbf8d0", func := "loop.example/g00210/laws.FnExactNetStart", spec := "fnExactNetStart", plainKeys := false, apart := false, narrowed := true }
def FnExactNetStartUptoSaid : Prop := fnExactNetStartUptoRow.holds Try.pinned (OpenSpec.upto fnExactNetStartSpec)

/-- 'laws.FnExactNetDone', WHERE WHAT IT READS IS OF BULK AT MOST 1048576: true; the input reads as it did. -/
def fnExactNetDoneUptoRow : OpenClaim := { program := "ytgpghfnhgmkhgaa", sum := "70756767eb5ab1aff95178e23e2b39f10d294c404a2826cc8567178f69cbf8d0", func := "loop.example/g00210/laws.FnExactNetDone", spec := "fnExactNetDone", unfollowed := true, recurses := true, plainKeys := false, apart := false, narrowed := true }
def FnExactNetDoneUptoSaid : Prop := fnExactNetDoneUptoRow.holds Try.pinned (OpenSpec.upto fnExactNetDoneSpec)

/-- 'laws.FnExactNetPieces', WHERE WHAT IT READS IS OF BULK AT MOST 1048576: true; the input reads as it did. -/
def fnExactNetPiecesUptoRow : OpenClaim := { program := "ytgpghfnhgmkhgaa", sum := "70756767eb5ab1aff95178e23e2b39f10d294c404a2826cc8567178f69cbf8d0", func := "loop.example/g00210/laws.FnExactNetPieces", spec := "fnExactNetPieces", unfollowed := true, recurses := true, plainKeys := false, apart := false, narrowed := true }
def FnExactNetPiecesUptoSaid : Prop := fnExactNetPiecesUptoRow.holds Try.pinned (OpenSpec.upto fnExactNetPiecesSpec)

end Rows
end Go.Proofs.Ytgpghfnhgmkhgaa
