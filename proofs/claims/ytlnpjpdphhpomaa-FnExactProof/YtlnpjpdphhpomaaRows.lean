/-
  No cell of these rows narrows 'for every input' (looked for: loops, veiled, ifaces, maps, wideKeys, modest, calm, conditions, laid).
  DERIVED. THE GIVEN ROWS OF THIS SEAT. 8 by the template 'for every input the law returns true; each argument reads behind the call as it read before'; 0 by the template 'total and deterministic' (their statements: YtlnpjpdphhpomaaTotals.lean).
  GIVEN WITH THE SEED: the statements are not yours to turn. If you find one false, say at which input.
  Laid BY PROGRAM, IN A SANDBOX (cutbox-rows.mjs): the forced cells as the released guide's own fill.sh prints them over the translation 5c7639b5e77db002… (all of the seat's roots in one cut). By AI agents, Wed Nov 11 2026. No macro, syntax, notation, axiom, sorry.
-/
import Derived.Test.YtlnpjpdphhpomaaChecked
import GoSem.Claim
import GoSem.ClaimJoined
import GoSem.ClaimMapViews
import Derived.JoinedTies
import Derived.KernelRfl
namespace Go.Proofs.Ytlnpjpdphhpomaa
/- THE CELL 'sum', in the pinned program and in every row, IS THE sha256 OF THE DUMP (.gsa) THAT YtlnpjpdphhpomaaProg.lean LOADS. Nothing in Lean hashes anything: it is a label: what it is worth is what the hold of that sum in a sandbox is worth. -/
noncomputable def Try.pinned : Pinned := { name := "ytlnpjpdphhpomaa", sum := "5c7639b5e77db002394ad75f4042d86f03c5d7d4f7e945184aa22945f601ecdc", checked := Try.checked }
namespace Rows
def none {H : Type} : Left H := { results := [], args := [] }

/-- 'laws.FnProof': WHATEVER THE INPUT: true; the input reads as it did. -/
def fnProofSpec : ChangeSpec := { name := "fnProof", fn := fun _ => fun
  | [d] => { results := [.lit (.bool true)], args := [d] }
  | _ => none }
def fnProofRow : OpenClaim := { program := "ytlnpjpdphhpomaa", sum := "5c7639b5e77db002394ad75f4042d86f03c5d7d4f7e945184aa22945f601ecdc", func := "loop.example/g00210/laws.FnProof", spec := "fnProof", unfollowed := true, recurses := true, apart := false }
def FnProofSaid : Prop := fnProofRow.holds Try.pinned (OpenSpec.ofChange fnProofSpec)

/-- ITS FALSE NEIGHBOUR: 'it returns false'. Refute it at one input. -/
def fnProofWrong : ChangeSpec := { name := "fnProof", fn := fun _ => fun
  | [d] => { results := [.lit (.bool false)], args := [d] }
  | _ => none }
def FnProofWrongFalsely : Prop := fnProofRow.holds Try.pinned (OpenSpec.ofChange fnProofWrong)

/-- 'laws.FnExactLeaf': WHATEVER THE INPUT: true; the input reads as it did. -/
def fnExactLeafSpec : ChangeSpec := { name := "fnExactLeaf", fn := fun _ => fun
  | [d] => { results := [.lit (.bool true)], args := [d] }
  | _ => none }
def fnExactLeafRow : OpenClaim := { program := "ytlnpjpdphhpomaa", sum := "5c7639b5e77db002394ad75f4042d86f03c5d7d4f7e945184aa22945f601ecdc", func := "loop.example/g00210/laws.FnExactLeaf", spec := "fnExactLeaf", apart := false }
def FnExactLeafSaid : Prop := fnExactLeafRow.holds Try.pinned (OpenSpec.ofChange fnExactLeafSpec)

/-- ITS FALSE NEIGHBOUR: 'it returns false'. Refute it at one input. -/
def fnExactLeafWrong : ChangeSpec := { name := "fnExactLeaf", fn := fun _ => fun
  | [d] => { results := [.lit (.bool false)], args := [d] }
  | _ => none }
def FnExactLeafWrongFalsely : Prop := fnExactLeafRow.holds Try.pinned (OpenSpec.ofChange fnExactLeafWrong)

/-- 'laws.FnExactJoin': WHATEVER THE INPUT: true; the input reads as it did. -/
def fnExactJoinSpec : ChangeSpec := { name := "fnExactJoin", fn := fun _ => fun
  | [d1, d2] => { results := [.lit (.bool true)], args := [d1, d2] }
  | _ => none }
def fnExactJoinRow : OpenClaim := { program := "ytlnpjpdphhpomaa", sum := "5c7639b5e77db002394ad75f4042d86f03c5d7d4f7e945184aa22945f601ecdc", func := "loop.example/g00210/laws.FnExactJoin", spec := "fnExactJoin", apart := false }
def FnExactJoinSaid : Prop := fnExactJoinRow.holds Try.pinned (OpenSpec.ofChange fnExactJoinSpec)

/-- ITS FALSE NEIGHBOUR: 'it returns false'. Refute it at one input. -/
def fnExactJoinWrong : ChangeSpec := { name := "fnExactJoin", fn := fun _ => fun
  | [d1, d2] => { results := [.lit (.bool false)], args := [d1, d2] }
  | _ => none }
def FnExactJoinWrongFalsely : Prop := fnExactJoinRow.holds Try.pinned (OpenSpec.ofChange fnExactJoinWrong)

/-- 'laws.FnExactRoot': WHATEVER THE INPUT: true; the input reads as it did. -/
def fnExactRootSpec : ChangeSpec := { name := "fnExactRoot", fn := fun _ => fun
  | [d] => { results := [.lit (.bool true)], args := [d] }
  | _ => none }
def fnExactRootRow : OpenClaim := { program := "ytlnpjpdphhpomaa", sum := "5c7639b5e77db002394ad75f4042d86f03c5d7d4f7e945184aa22945f601ecdc", func := "loop.example/g00210/laws.FnExactRoot", spec := "fnExactRoot", unfollowed := true, recurses := true, apart := false }
def FnExactRootSaid : Prop := fnExactRootRow.holds Try.pinned (OpenSpec.ofChange fnExactRootSpec)

/-- ITS FALSE NEIGHBOUR: 'it returns false'. Refute it at one input. -/
def fnExactRootWrong : ChangeSpec := { name := "fnExactRoot", fn := fun _ => fun
  | [d] => { results := [.lit (.bool false)], args := [d] }
  | _ => none }
def FnExactRootWrongFalsely : Prop := fnExactRootRow.holds Try.pinned (OpenSpec.ofChange fnExactRootWrong)

/-- 'laws.FnExactProof': WHATEVER THE INPUT: true; the input reads as it did. -/
def fnExactProofSpec : ChangeSpec := { name := "fnExactProof", fn := fun _ => fun
  | [d1, d2] => { results := [.lit (.bool true)], args := [d1, d2] }
  | _ => none }
def fnExactProofRow : OpenClaim := { program := "ytlnpjpdphhpomaa", sum := "5c7639b5e77db002394ad75f4042d86f03c5d7d4f7e945184aa22945f601ecdc", func := "loop.example/g00210/laws.FnExactProof", spec := "fnExactProof", unfollowed := true, recurses := true, apart := false }
def FnExactProofSaid : Prop := fnExactProofRow.holds Try.pinned (OpenSpec.ofChange fnExactProofSpec)

/-- ITS FALSE NEIGHBOUR: 'it returns false'. Refute it at one input. -/
def fnExactProofWrong : ChangeSpec := { name := "fnExactProof", fn := fun _ => fun
  | [d1, d2] => { results := [.lit (.bool false)], args := [d1, d2] }
  | _ => none }
def FnExactProofWrongFalsely : Prop := fnExactProofRow.holds Try.pinned (OpenSpec.ofChange fnExactProofWrong)

/-- 'laws.FnExactProofRoot': WHATEVER THE INPUT: true; the input reads as it did. -/
def fnExactProofRootSpec : ChangeSpec := { name := "fnExactProofRoot", fn := fun _ => fun
  | [d1, d2, d3, d4] => { results := [.lit (.bool true)], args := [d1, d2, d3, d4] }
  | _ => none }
def fnExactProofRootRow : OpenClaim := { program := "ytlnpjpdphhpomaa", sum := "5c7639b5e77db002394ad75f4042d86f03c5d7d4f7e945184aa22945f601ecdc", func := "loop.example/g00210/laws.FnExactProofRoot", spec := "fnExactProofRoot", unfollowed := true, recurses := true, apart := false }
def FnExactProofRootSaid : Prop := fnExactProofRootRow.holds Try.pinned (OpenSpec.ofChange fnExactProofRootSpec)

/-- ITS FALSE NEIGHBOUR: 'it returns false'. Refute it at one input. -/
def fnExactProofRootWrong : ChangeSpec := { name := "fnExactProofRoot", fn := fun _ => fun
  | [d1, d2, d3, d4] => { results := [.lit (.bool false)], args := [d1, d2, d3, d4] }
  | _ => none }
def FnExactProofRootWrongFalsely : Prop := fnExactProofRootRow.holds Try.pinned (OpenSpec.ofChange fnExactProofRootWrong)

/-- 'laws.FnExactProved': WHATEVER THE INPUT: true; the input reads as it did. -/
def fnExactProvedSpec : ChangeSpec := { name := "fnExactProved", fn := fun _ => fun
  | [d1, d2, d3, d4, d5] => { results := [.lit (.bool true)], args := [d1, d2, d3, d4, d5] }
  | _ => none }
def fnExactProvedRow : OpenClaim := { program := "ytlnpjpdphhpomaa", sum := "5c7639b5e77db002394ad75f4042d86f03c5d7d4f7e945184aa22945f601ecdc", func := "loop.example/g00210/laws.FnExactProved", spec := "fnExactProved", unfollowed := true, recurses := true, apart := false }
def FnExactProvedSaid : Prop := fnExactProvedRow.holds Try.pinned (OpenSpec.ofChange fnExactProvedSpec)

/-- ITS FALSE NEIGHBOUR: 'it returns false'. Refute it at one input. -/
def fnExactProvedWrong : ChangeSpec := { name := "fnExactProved", fn := fun _ => fun
  | [d1, d2, d3, d4, d5] => { results := [.lit (.bool false)], args := [d1, d2, d3, d4, d5] }
  | _ => none }
def FnExactProvedWrongFalsely : Prop := fnExactProvedRow.holds Try.pinned (OpenSpec.ofChange fnExactProvedWrong)

/-- 'laws.FnExactProofLen': WHATEVER THE INPUT: true; the input reads as it did. -/
def fnExactProofLenSpec : ChangeSpec := { name := "fnExactProofLen", fn := fun _ => fun
  | [d1, d2] => { results := [.lit (.bool true)], args := [d1, d2] }
  | _ => none }
def fnExactProofLenRow : OpenClaim := { program := "ytlnpjpdphhpomaa", sum := "5c7639b5e77db002394ad75f4042d86f03c5d7d4f7e945184aa22945f601ecdc", func := "loop.example/g00210/laws.FnExactProofLen", spec := "fnExactProofLen", unfollowed := true, recurses := true, apart := false }
def FnExactProofLenSaid : Prop := fnExactProofLenRow.holds Try.pinned (OpenSpec.ofChange fnExactProofLenSpec)

/-- ITS FALSE NEIGHBOUR: 'it returns false'. Refute it at one input. -/
def fnExactProofLenWrong : ChangeSpec := { name := "fnExactProofLen", fn := fun _ => fun
  | [d1, d2] => { results := [.lit (.bool false)], args := [d1, d2] }
  | _ => none }
def FnExactProofLenWrongFalsely : Prop := fnExactProofLenRow.holds Try.pinned (OpenSpec.ofChange fnExactProofLenWrong)

/- THE SECOND FORM. 'bulk': how many values and letters a reading holds, each counted each time it is reached (what is shared counts as often as it is met; a slice's spare places count too). A statement '..UptoSaid' is the law's where the arguments, and the package variables that the reading takes, are together of bulk at most 1048576: NARROWER than '..Said'. Prove '..Said' where nothing that the law and all that it calls make is longer than what came in: it says more and counts as full. Else prove '..UptoSaid'. A law counts once. -/
mutual
def uptoBulk {H : Type} : DataW H → Nat
  | .lit (.string bytes) => bytes.length + 1
  | .lit _ => 1
  | .nil => 1
  | .ptr d => uptoBulk d + 1
  | .slice elems spare => uptoBulkAll elems + uptoBulkAll spare + 1
  | .agg parts => uptoBulkAll parts + 1
  | .iface _ d => uptoBulk d + 1
  | .map entries => uptoBulkEntries entries + 1
  | .held _ => 1
def uptoBulkAll {H : Type} : List (DataW H) → Nat
  | [] => 0
  | d :: r => uptoBulk d + uptoBulkAll r
def uptoBulkEntries {H : Type} : List (Lit × DataW H) → Nat
  | [] => 0
  | x :: r => uptoBulkEntry x + uptoBulkEntries r
def uptoBulkEntry {H : Type} : Lit × DataW H → Nat
  | (.string bytes, d) => bytes.length + uptoBulk d + 1
  | (_, d) => uptoBulk d + 1
 end
def uptoSmall : (H : Type) → List (DataW H) → Bool := fun _ ds => decide (uptoBulkAll ds ≤ 1048576)
def OpenSpec.upto (s : _root_.Go.ChangeSpec) : _root_.Go.OpenSpec := { _root_.Go.OpenSpec.ofChange s with cond := some uptoSmall }

/-- 'laws.FnProof', WHERE WHAT IT READS IS OF BULK AT MOST 1048576: true; the input reads as it did. -/
def fnProofUptoRow : OpenClaim := { program := "ytlnpjpdphhpomaa", sum := "5c7639b5e77db002394ad75f4042d86f03c5d7d4f7e945184aa22945f601ecdc", func := "loop.example/g00210/laws.FnProof", spec := "fnProof", unfollowed := true, recurses := true, apart := false, narrowed := true }
def FnProofUptoSaid : Prop := fnProofUptoRow.holds Try.pinned (OpenSpec.upto fnProofSpec)

/-- 'laws.FnExactLeaf', WHERE WHAT IT READS IS OF BULK AT MOST 1048576: true; the input reads as it did. -/
def fnExactLeafUptoRow : OpenClaim := { program := "ytlnpjpdphhpomaa", sum := "5c7639b5e77db002394ad75f4042d86f03c5d7d4f7e945184aa22945f601ecdc", func := "loop.example/g00210/laws.FnExactLeaf", spec := "fnExactLeaf", apart := false, narrowed := true }
def FnExactLeafUptoSaid : Prop := fnExactLeafUptoRow.holds Try.pinned (OpenSpec.upto fnExactLeafSpec)

/-- 'laws.FnExactJoin', WHERE WHAT IT READS IS OF BULK AT MOST 1048576: true; the input reads as it did. -/
def fnExactJoinUptoRow : OpenClaim := { program := "ytlnpjpdphhpomaa", sum := "5c7639b5e77db002394ad75f4042d86f03c5d7d4f7e945184aa22945f601ecdc", func := "loop.example/g00210/laws.FnExactJoin", spec := "fnExactJoin", apart := false, narrowed := true }
def FnExactJoinUptoSaid : Prop := fnExactJoinUptoRow.holds Try.pinned (OpenSpec.upto fnExactJoinSpec)

/-- 'laws.FnExactRoot', WHERE WHAT IT READS IS OF BULK AT MOST 1048576: true; the input reads as it did. -/
def fnExactRootUptoRow : OpenClaim := { program := "ytlnpjpdphhpomaa", sum := "5c7639b5e77db002394ad75f4042d86f03c5d7d4f7e945184aa22945f601ecdc", func := "loop.example/g00210/laws.FnExactRoot", spec := "fnExactRoot", unfollowed := true, recurses := true, apart := false, narrowed := true }
def FnExactRootUptoSaid : Prop := fnExactRootUptoRow.holds Try.pinned (OpenSpec.upto fnExactRootSpec)

/-- 'laws.FnExactProof', WHERE WHAT IT READS IS OF BULK AT MOST 1048576: true; the input reads as it did. -/
def fnExactProofUptoRow : OpenClaim := { program := "ytlnpjpdphhpomaa", sum := "5c7639b5e77db002394ad75f4042d86f03c5d7d4f7e945184aa22945f601ecdc", func := "loop.example/g00210/laws.FnExactProof", spec := "fnExactProof", unfollowed := true, recurses := true, apart := false, narrowed := true }
def FnExactProofUptoSaid : Prop := fnExactProofUptoRow.holds Try.pinned (OpenSpec.upto fnExactProofSpec)

/-- 'laws.FnExactProofRoot', WHERE WHAT IT READS IS OF BULK AT MOST 1048576: true; the input reads as it did. -/
def fnExactProofRootUptoRow : OpenClaim := { program := "ytlnpjpdphhpomaa", sum := "5c7639b5e77db002394ad75f4042d86f03c5d7d4f7e945184aa22945f601ecdc", func := "loop.example/g00210/laws.FnExactProofRoot", spec := "fnExactProofRoot", unfollowed := true, recurses := true, apart := false, narrowed := true }
def FnExactProofRootUptoSaid : Prop := fnExactProofRootUptoRow.holds Try.pinned (OpenSpec.upto fnExactProofRootSpec)

/-- 'laws.FnExactProved', WHERE WHAT IT READS IS OF BULK AT MOST 1048576: true; the input reads as it did. -/
def fnExactProvedUptoRow : OpenClaim := { program := "ytlnpjpdphhpomaa", sum := "5c7639b5e77db002394ad75f4042d86f03c5d7d4f7e945184aa22945f601ecdc", func := "loop.example/g00210/laws.FnExactProved", spec := "fnExactProved", unfollowed := true, recurses := true, apart := false, narrowed := true }
def FnExactProvedUptoSaid : Prop := fnExactProvedUptoRow.holds Try.pinned (OpenSpec.upto fnExactProvedSpec)

/-- 'laws.FnExactProofLen', WHERE WHAT IT READS IS OF BULK AT MOST 1048576: true; the input reads as it did. -/
def fnExactProofLenUptoRow : OpenClaim := { program := "ytlnpjpdphhpomaa", sum := "5c7639b5e77db002394ad75f4042d86f03c5d7d4f7e945184aa22945f601ecdc", func := "loop.example/g00210/laws.FnExactProofLen", spec := "fnExactProofLen", unfollowed := true, recurses := true, apart := false, narrowed := true }
def FnExactProofLenUptoSaid : Prop := fnExactProofLenUptoRow.holds Try.pinned (OpenSpec.upto fnExactProofLenSpec)

end Rows
end Go.Proofs.Ytlnpjpdphhpomaa
