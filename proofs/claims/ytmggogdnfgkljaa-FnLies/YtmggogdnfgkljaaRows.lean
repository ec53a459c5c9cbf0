/-
  No cell of these rows narrows 'for every input' (looked for: loops, veiled, ifaces, maps, wideKeys, modest, calm, conditions, laid).
  DERIVED. THE GIVEN ROWS OF THIS SEAT. 11 by the template 'for every input the law returns true; each argument reads behind the call as it read before'; 0 by the template 'total and deterministic' (their statements: YtmggogdnfgkljaaTotals.lean).
  GIVEN WITH THE SEED: the statements are not yours to turn. If you find one false, say at which input.
  Laid BY PROGRAM, IN A SANDBOX (cutbox-rows.mjs): the forced cells as the released guide's own fill.sh prints them over the translation 9c24c29d8e050000… (all of the seat's roots in one cut). By AI agents, Wed Nov 11 2026. No macro, syntax, notation, axiom, sorry.
-/
import Derived.Test.YtmggogdnfgkljaaChecked
import GoSem.Claim
import GoSem.ClaimJoined
import GoSem.ClaimMapViews
import Derived.JoinedTies
import Derived.KernelRfl
namespace Go.Proofs.Ytmggogdnfgkljaa
/- THE CELL 'sum', in the pinned program and in every row, IS THE sha256 OF THE DUMP (.gsa) THAT YtmggogdnfgkljaaProg.lean LOADS. Nothing in Lean hashes anything: it is a label: what it is worth is what the hold of that sum in a sandbox is worth. -/
noncomputable def Try.pinned : Pinned := { name := "ytmggogdnfgkljaa", sum := "9c24c29d8e050000442cfbbef1446a9270886b6083d6360ec49ceb1b781c9f48", checked := Try.checked }
namespace Rows
def none {H : Type} : Left H := { results := [], args := [] }

/-- 'laws.FnInverse': WHATEVER THE INPUT: true; the input reads as it did. -/
def fnInverseSpec : ChangeSpec := { name := "fnInverse", fn := fun _ => fun
  | [d] => { results := [.lit (.bool true)], args := [d] }
  | _ => none }
def fnInverseRow : OpenClaim := { program := "ytmggogdnfgkljaa", sum := "9c24c29d8e050000442cfbbef1446a9270886b6083d6360ec49ceb1b781c9f48", func := "loop.example/g00210/laws.FnInverse", spec := "fnInverse", unfollowed := true, recurses := true, apart := false }
def FnInverseSaid : Prop := fnInverseRow.holds Try.pinned (OpenSpec.ofChange fnInverseSpec)

/-- ITS FALSE NEIGHBOUR: 'it returns false'. Refute it at one input. -/
def fnInverseWrong : ChangeSpec := { name := "fnInverse", fn := fun _ => fun
  | [d] => { results := [.lit (.bool false)], args := [d] }
  | _ => none }
def FnInverseWrongFalsely : Prop := fnInverseRow.holds Try.pinned (OpenSpec.ofChange fnInverseWrong)

/-- 'laws.FnTurned': WHATEVER THE INPUT: true; the input reads as it did. -/
def fnTurnedSpec : ChangeSpec := { name := "fnTurned", fn := fun _ => fun
  | [d] => { results := [.lit (.bool true)], args := [d] }
  | _ => none }
def fnTurnedRow : OpenClaim := { program := "ytmggogdnfgkljaa", sum := "9c24c29d8e050000442cfbbef1446a9270886b6083d6360ec49ceb1b781c9f48", func := "loop.example/g00210/laws.FnTurned", spec := "fnTurned", unfollowed := true, recurses := true, apart := false }
def FnTurnedSaid : Prop := fnTurnedRow.holds Try.pinned (OpenSpec.ofChange fnTurnedSpec)

/-- ITS FALSE NEIGHBOUR: 'it returns false'. Refute it at one input. -/
def fnTurnedWrong : ChangeSpec := { name := "fnTurned", fn := fun _ => fun
  | [d] => { results := [.lit (.bool false)], args := [d] }
  | _ => none }
def FnTurnedWrongFalsely : Prop := fnTurnedRow.holds Try.pinned (OpenSpec.ofChange fnTurnedWrong)

/-- 'laws.FnSpread': WHATEVER THE INPUT: true; the input reads as it did. -/
def fnSpreadSpec : ChangeSpec := { name := "fnSpread", fn := fun _ => fun
  | [d] => { results := [.lit (.bool true)], args := [d] }
  | _ => none }
def fnSpreadRow : OpenClaim := { program := "ytmggogdnfgkljaa", sum := "9c24c29d8e050000442cfbbef1446a9270886b6083d6360ec49ceb1b781c9f48", func := "loop.example/g00210/laws.FnSpread", spec := "fnSpread", unfollowed := true, recurses := true, apart := false }
def FnSpreadSaid : Prop := fnSpreadRow.holds Try.pinned (OpenSpec.ofChange fnSpreadSpec)

/-- ITS FALSE NEIGHBOUR: 'it returns false'. Refute it at one input. -/
def fnSpreadWrong : ChangeSpec := { name := "fnSpread", fn := fun _ => fun
  | [d] => { results := [.lit (.bool false)], args := [d] }
  | _ => none }
def FnSpreadWrongFalsely : Prop := fnSpreadRow.holds Try.pinned (OpenSpec.ofChange fnSpreadWrong)

/-- 'laws.FnAny': WHATEVER THE INPUT: true; the input reads as it did. -/
def fnAnySpec : ChangeSpec := { name := "fnAny", fn := fun _ => fun
  | [d] => { results := [.lit (.bool true)], args := [d] }
  | _ => none }
def fnAnyRow : OpenClaim := { program := "ytmggogdnfgkljaa", sum := "9c24c29d8e050000442cfbbef1446a9270886b6083d6360ec49ceb1b781c9f48", func := "loop.example/g00210/laws.FnAny", spec := "fnAny", unfollowed := true, recurses := true, apart := false }
def FnAnySaid : Prop := fnAnyRow.holds Try.pinned (OpenSpec.ofChange fnAnySpec)

/-- ITS FALSE NEIGHBOUR: 'it returns false'. Refute it at one input. -/
def fnAnyWrong : ChangeSpec := { name := "fnAny", fn := fun _ => fun
  | [d] => { results := [.lit (.bool false)], args := [d] }
  | _ => none }
def FnAnyWrongFalsely : Prop := fnAnyRow.holds Try.pinned (OpenSpec.ofChange fnAnyWrong)

/-- 'laws.FnLies': WHATEVER THE INPUT: true; the input reads as it did. -/
def fnLiesSpec : ChangeSpec := { name := "fnLies", fn := fun _ => fun
  | [d] => { results := [.lit (.bool true)], args := [d] }
  | _ => none }
def fnLiesRow : OpenClaim := { program := "ytmggogdnfgkljaa", sum := "9c24c29d8e050000442cfbbef1446a9270886b6083d6360ec49ceb1b781c9f48", func := "loop.example/g00210/laws.FnLies", spec := "fnLies", unfollowed := true, recurses := true, apart := false }
def FnLiesSaid : Prop := fnLiesRow.holds Try.pinned (OpenSpec.ofChange fnLiesSpec)

/-- ITS FALSE NEIGHBOUR: 'it returns false'. Refute it at one input. -/
def fnLiesWrong : ChangeSpec := { name := "fnLies", fn := fun _ => fun
  | [d] => { results := [.lit (.bool false)], args := [d] }
  | _ => none }
def FnLiesWrongFalsely : Prop := fnLiesRow.holds Try.pinned (OpenSpec.ofChange fnLiesWrong)

/-- 'laws.FnExactMatInverse': WHATEVER THE INPUT: true; the input reads as it did. -/
def fnExactMatInverseSpec : ChangeSpec := { name := "fnExactMatInverse", fn := fun _ => fun
  | [d] => { results := [.lit (.bool true)], args := [d] }
  | _ => none }
def fnExactMatInverseRow : OpenClaim := { program := "ytmggogdnfgkljaa", sum := "9c24c29d8e050000442cfbbef1446a9270886b6083d6360ec49ceb1b781c9f48", func := "loop.example/g00210/laws.FnExactMatInverse", spec := "fnExactMatInverse", unfollowed := true, recurses := true, apart := false }
def FnExactMatInverseSaid : Prop := fnExactMatInverseRow.holds Try.pinned (OpenSpec.ofChange fnExactMatInverseSpec)

/-- ITS FALSE NEIGHBOUR: 'it returns false'. Refute it at one input. -/
def fnExactMatInverseWrong : ChangeSpec := { name := "fnExactMatInverse", fn := fun _ => fun
  | [d] => { results := [.lit (.bool false)], args := [d] }
  | _ => none }
def FnExactMatInverseWrongFalsely : Prop := fnExactMatInverseRow.holds Try.pinned (OpenSpec.ofChange fnExactMatInverseWrong)

/-- 'laws.FnExactBodyLen': WHATEVER THE INPUT: true; the input reads as it did. -/
def fnExactBodyLenSpec : ChangeSpec := { name := "fnExactBodyLen", fn := fun _ => fun
  | [d1, d2] => { results := [.lit (.bool true)], args := [d1, d2] }
  | _ => none }
def fnExactBodyLenRow : OpenClaim := { program := "ytmggogdnfgkljaa", sum := "9c24c29d8e050000442cfbbef1446a9270886b6083d6360ec49ceb1b781c9f48", func := "loop.example/g00210/laws.FnExactBodyLen", spec := "fnExactBodyLen", apart := false }
def FnExactBodyLenSaid : Prop := fnExactBodyLenRow.holds Try.pinned (OpenSpec.ofChange fnExactBodyLenSpec)

/-- ITS FALSE NEIGHBOUR: 'it returns false'. Refute it at one input. -/
def fnExactBodyLenWrong : ChangeSpec := { name := "fnExactBodyLen", fn := fun _ => fun
  | [d1, d2] => { results := [.lit (.bool false)], args := [d1, d2] }
  | _ => none }
def FnExactBodyLenWrongFalsely : Prop := fnExactBodyLenRow.holds Try.pinned (OpenSpec.ofChange fnExactBodyLenWrong)

/-- 'laws.FnExactEncode': WHATEVER THE INPUT: true; the input reads as it did. -/
def fnExactEncodeSpec : ChangeSpec := { name := "fnExactEncode", fn := fun _ => fun
  | [d1, d2, d3] => { results := [.lit (.bool true)], args := [d1, d2, d3] }
  | _ => none }
def fnExactEncodeRow : OpenClaim := { program := "ytmggogdnfgkljaa", sum := "9c24c29d8e050000442cfbbef1446a9270886b6083d6360ec49ceb1b781c9f48", func := "loop.example/g00210/laws.FnExactEncode", spec := "fnExactEncode", unfollowed := true, recurses := true, apart := false }
def FnExactEncodeSaid : Prop := fnExactEncodeRow.holds Try.pinned (OpenSpec.ofChange fnExactEncodeSpec)

/-- ITS FALSE NEIGHBOUR: 'it returns false'. Refute it at one input. -/
def fnExactEncodeWrong : ChangeSpec := { name := "fnExactEncode", fn := fun _ => fun
  | [d1, d2, d3] => { results := [.lit (.bool false)], args := [d1, d2, d3] }
  | _ => none }
def FnExactEncodeWrongFalsely : Prop := fnExactEncodeRow.holds Try.pinned (OpenSpec.ofChange fnExactEncodeWrong)

/-- 'laws.FnExactDecode': WHATEVER THE INPUT: true; the input reads as it did. -/
def fnExactDecodeSpec : ChangeSpec := { name := "fnExactDecode", fn := fun _ => fun
  | [d1, d2, d3, d4] => { results := [.lit (.bool true)], args := [d1, d2, d3, d4] }
  | _ => none }
def fnExactDecodeRow : OpenClaim := { program := "ytmggogdnfgkljaa", sum := "9c24c29d8e050000442cfbbef1446a9270886b6083d6360ec49ceb1b781c9f48", func := "loop.example/g00210/laws.FnExactDecode", spec := "fnExactDecode", unfollowed := true, recurses := true, apart := false }
def FnExactDecodeSaid : Prop := fnExactDecodeRow.holds Try.pinned (OpenSpec.ofChange fnExactDecodeSpec)

/-- ITS FALSE NEIGHBOUR: 'it returns false'. Refute it at one input. -/
def fnExactDecodeWrong : ChangeSpec := { name := "fnExactDecode", fn := fun _ => fun
  | [d1, d2, d3, d4] => { results := [.lit (.bool false)], args := [d1, d2, d3, d4] }
  | _ => none }
def FnExactDecodeWrongFalsely : Prop := fnExactDecodeRow.holds Try.pinned (OpenSpec.ofChange fnExactDecodeWrong)

/-- 'laws.FnExactBodies': WHATEVER THE INPUT: true; the input reads as it did. -/
def fnExactBodiesSpec : ChangeSpec := { name := "fnExactBodies", fn := fun _ => fun
  | [d1, d2, d3, d4] => { results := [.lit (.bool true)], args := [d1, d2, d3, d4] }
  | _ => none }
def fnExactBodiesRow : OpenClaim := { program := "ytmggogdnfgkljaa", sum := "9c24c29d8e050000442cfbbef1446a9270886b6083d6360ec49ceb1b781c9f48", func := "loop.example/g00210/laws.FnExactBodies", spec := "fnExactBodies", unfollowed := true, recurses := true, apart := false }
def FnExactBodiesSaid : Prop := fnExactBodiesRow.holds Try.pinned (OpenSpec.ofChange fnExactBodiesSpec)

/-- ITS FALSE NEIGHBOUR: 'it returns false'. Refute it at one input. -/
def fnExactBodiesWrong : ChangeSpec := { name := "fnExactBodies", fn := fun _ => fun
  | [d1, d2, d3, d4] => { results := [.lit (.bool false)], args := [d1, d2, d3, d4] }
  | _ => none }
def FnExactBodiesWrongFalsely : Prop := fnExactBodiesRow.holds Try.pinned (OpenSpec.ofChange fnExactBodiesWrong)

/-- 'laws.FnExactAgree': WHATEVER THE INPUT: true; the input reads as it did. -/
def fnExactAgreeSpec : ChangeSpec := { name := "fnExactAgree", fn := fun _ => fun
  | [d1, d2, d3] => { results := [.lit (.bool true)], args := [d1, d2, d3] }
  | _ => none }
def fnExactAgreeRow : OpenClaim := { program := "ytmggogdnfgkljaa", sum := "9c24c29d8e050000442cfbbef1446a9270886b6083d6360ec49ceb1b781c9f48", func := "loop.example/g00210/laws.FnExactAgree", spec := "fnExactAgree", unfollowed := true, recurses := true, apart := false }
def FnExactAgreeSaid : Prop := fnExactAgreeRow.holds Try.pinned (OpenSpec.ofChange fnExactAgreeSpec)

/-- ITS FALSE NEIGHBOUR: 'it returns false'. Refute it at one input. -/
def fnExactAgreeWrong : ChangeSpec := { name := "fnExactAgree", fn := fun _ => fun
  | [d1, d2, d3] => { results := [.lit (.bool false)], args := [d1, d2, d3] }
  | _ => none }
def FnExactAgreeWrongFalsely : Prop := fnExactAgreeRow.holds Try.pinned (OpenSpec.ofChange fnExactAgreeWrong)

/- THE SECOND FORM. 'bulk': how many values and letters a reading holds, each counted each time it is reached (what is shared counts as often as it is met; a slice's spare places count too). A statement '..UptoSaid' is the law's where the arguments, and the package variables that the reading takes, are together of bulk at most 1048576: NARROWER than '..Said'. Prove '..Said' where nothing that the law and all that it calls make is longer than what came in: it says more and counts as full. Else prove '..UptoSaid'. A law counts once. -/
mutual
def uptoBulk {H : Type} : DataW H → Nat
  | .lit (.string bytes) => bytes.length + 1
  | .lit _ => 1
  | .nil => 1
  | .ptr d => uptoBulk d + 1
  | .slice elems spare => uptoBulkAll elems + uptoBulkAll spare + 1
  | .agg parts => uptoBulkAll parts + 1
  | .iface _ d => uptoBulk d + 1
  | .map entries => uptoBulkEntries entries + 1
  | .held _ => 1
def uptoBulkAll {H : Type} : List (DataW H) → Nat
  | [] => 0
  | d :: r => uptoBulk d + uptoBulkAll r
def uptoBulkEntries {H : Type} : List (Lit × DataW H) → Nat
  | [] => 0
  | x :: r => uptoBulkEntry x + uptoBulkEntries r
def uptoBulkEntry {H : Type} : Lit × DataW H → Nat
  | (.string bytes, d) => bytes.length + uptoBulk d + 1
  | (_, d) => uptoBulk d + 1
 end
def uptoSmall : (H : Type) → List (DataW H) → Bool := fun _ ds => decide (uptoBulkAll ds ≤ 1048576)
def OpenSpec.upto (s : _root_.Go.ChangeSpec) : _root_.Go.OpenSpec := { _root_.Go.OpenSpec.ofChange s with cond := some uptoSmall }

/-- 'laws.FnInverse', WHERE WHAT IT READS IS OF BULK AT MOST 1048576: true; the input reads as it did. -/
def fnInverseUptoRow : OpenClaim := { program := "ytmggogdnfgkljaa", sum := "9c24c29d8e050000442cfbbef1446a9270886b6083d6360ec49ceb1b781c9f48", func := "loop.example/g00210/laws.FnInverse", spec := "fnInverse", unfollowed := true, recurses := true, apart := false, narrowed := true }
def FnInverseUptoSaid : Prop := fnInverseUptoRow.holds Try.pinned (OpenSpec.upto fnInverseSpec)

/-- 'laws.FnTurned', WHERE WHAT IT READS IS OF BULK AT MOST 1048576: true; the input reads as it did. -/
def fnTurnedUptoRow : OpenClaim := { program := "ytmggogdnfgkljaa", sum := "9c24c29d8e050000442cfbbef1446a9270886b6083d6360ec49ceb1b781c9f48", func := "loop.example/g00210/laws.FnTurned", spec := "fnTurned", unfollowed := true, recurses := true, apart := false, narrowed := true }
def FnTurnedUptoSaid : Prop := fnTurnedUptoRow.holds Try.pinned (OpenSpec.upto fnTurnedSpec)

/-- 'laws.FnSpread', WHERE WHAT IT READS IS OF BULK AT MOST 1048576: true; the input reads as it did. -/
def fnSpreadUptoRow : OpenClaim := { program := "ytmggogdnfgkljaa", sum := "9c24c29d8e050000442cfbbef1446a9270886b6083d6360ec49ceb1b781c9f48", func := "loop.example/g00210/laws.FnSpread", spec := "fnSpread", unfollowed := true, recurses := true, apart := false, narrowed := true }
def FnSpreadUptoSaid : Prop := fnSpreadUptoRow.holds Try.pinned (OpenSpec.upto fnSpreadSpec)

/-- 'laws.FnAny', WHERE WHAT IT READS IS OF BULK AT MOST 1048576: true; the input reads as it did. -/
def fnAnyUptoRow : OpenClaim := { program := "ytmggogdnfgkljaa", sum := "9c24c29d8e050000442cfbbef1446a9270886b6083d6360ec49ceb1b781c9f48", func := "loop.example/g00210/laws.FnAny", spec := "fnAny", unfollowed := true, recurses := true, apart := false, narrowed := true }
def FnAnyUptoSaid : Prop := fnAnyUptoRow.holds Try.pinned (OpenSpec.upto fnAnySpec)

/-- 'laws.FnLies', WHERE WHAT IT READS IS OF BULK AT MOST 1048576: true; the input reads as it did. -/
def fnLiesUptoRow : OpenClaim := { program := "ytmggogdnfgkljaa", sum := "9c24c29d8e050000442cfbbef1446a9270886b6083d6360ec49ceb1b781c9f48", func := "loop.example/g00210/laws.FnLies", spec := "fnLies", unfollowed := true, recurses := true, apart := false, narrowed := true }
def FnLiesUptoSaid : Prop := fnLiesUptoRow.holds Try.pinned (OpenSpec.upto fnLiesSpec)

/-- 'laws.FnExactMatInverse', WHERE WHAT IT READS IS OF BULK AT MOST 1048576: true; the input reads as it did. -/
def fnExactMatInverseUptoRow : OpenClaim := { program := "ytmggogdnfgkljaa", sum := "9c24c29d8e050000442cfbbef1446a9270886b6083d6360ec49ceb1b781c9f48", func := "loop.example/g00210/laws.FnExactMatInverse", spec := "fnExactMatInverse", unfollowed := true, recurses := true, apart := false, narrowed := true }
def FnExactMatInverseUptoSaid : Prop := fnExactMatInverseUptoRow.holds Try.pinned (OpenSpec.upto fnExactMatInverseSpec)

/-- 'laws.FnExactBodyLen', WHERE WHAT IT READS IS OF BULK AT MOST 1048576: true; the input reads as it did. -/
def fnExactBodyLenUptoRow : OpenClaim := { program := "ytmggogdnfgkljaa", sum := "9c24c29d8e050000442cfbbef1446a9270886b6083d6360ec49ceb1b781c9f48", func := "loop.example/g00210/laws.FnExactBodyLen", spec := "fnExactBodyLen", apart := false, narrowed := true }
def FnExactBodyLenUptoSaid : Prop := fnExactBodyLenUptoRow.holds Try.pinned (OpenSpec.upto fnExactBodyLenSpec)

/-- 'laws.FnExactEncode', WHERE WHAT IT READS IS OF BULK AT MOST 1048576: true; the input reads as it did. -/
def fnExactEncodeUptoRow : OpenClaim := { program := "ytmggogdnfgkljaa", sum := "9c24c29d8e050000442cfbbef1446a9270886b6083d6360ec49ceb1b781c9f48", func := "loop.example/g00210/laws.FnExactEncode", spec := "fnExactEncode", unfollowed := true, recurses := true, apart := false, narrowed := true }
def FnExactEncodeUptoSaid : Prop := fnExactEncodeUptoRow.holds Try.pinned (OpenSpec.upto fnExactEncodeSpec)

/-- 'laws.FnExactDecode', WHERE WHAT IT READS IS OF BULK AT MOST 1048576: true; the input reads as it did. -/
def fnExactDecodeUptoRow : OpenClaim := { program := "ytmggogdnfgkljaa", sum := "9c24c29d8e050000442cfbbef1446a9270886b6083d6360ec49ceb1b781c9f48", func := "loop.example/g00210/laws.FnExactDecode", spec := "fnExactDecode", unfollowed := true, recurses := true, apart := false, narrowed := true }
def FnExactDecodeUptoSaid : Prop := fnExactDecodeUptoRow.holds Try.pinned (OpenSpec.upto fnExactDecodeSpec)

/-- 'laws.FnExactBodies', WHERE WHAT IT READS IS OF BULK AT MOST 1048576: true; the input reads as it did. -/
def fnExactBodiesUptoRow : OpenClaim := { program := "ytmggogdnfgkljaa", sum := "9c24c29d8e050000442cfbbef1446a9270886b6083d6360ec49ceb1b781c9f48", func := "loop.example/g00210/laws.FnExactBodies", spec := "fnExactBodies", unfollowed := true, recurses := true, apart := false, narrowed := true }
def FnExactBodiesUptoSaid : Prop := fnExactBodiesUptoRow.holds Try.pinned (OpenSpec.upto fnExactBodiesSpec)

/-- 'laws.FnExactAgree', WHERE WHAT IT READS IS OF BULK AT MOST 1048576: true; the input reads as it did. -/
def fnExactAgreeUptoRow : OpenClaim := { program := "ytmggogdnfgkljaa", sum := "9c24c29d8e050000442cfbbef1446a9270886b6083d6360ec49ceb1b781c9f48", func := "loop.example/g00210/laws.FnExactAgree", spec := "fnExactAgree", unfollowed := true, recurses := true, apart := false, narrowed := true }
def FnExactAgreeUptoSaid : Prop := fnExactAgreeUptoRow.holds Try.pinned (OpenSpec.upto fnExactAgreeSpec)

end Rows
end Go.Proofs.Ytmggogdnfgkljaa
