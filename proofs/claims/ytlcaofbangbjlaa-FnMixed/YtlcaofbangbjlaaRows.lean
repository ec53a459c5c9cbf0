/-
  No cell of these rows narrows 'for every input' (looked for: loops, veiled, ifaces, maps, wideKeys, modest, calm, conditions, laid).
  DERIVED. THE GIVEN ROWS OF THIS SEAT. 9 by the template 'for every input the law returns true; each argument reads behind the call as it read before'; 0 by the template 'total and deterministic' (their statements: YtlcaofbangbjlaaTotals.lean).
  GIVEN WITH THE SEED: the statements are not yours to turn. If you find one false, say at which input.
  Laid BY PROGRAM, IN A SANDBOX (cutbox-rows.mjs): the forced cells as the released guide's own fill.sh prints them over the translation a535848792d7eaa6… (all of the seat's roots in one cut). By AI agents, Wed Nov 11 2026. No macro, syntax, notation, axiom, sorry.
-/
import Derived.Test.YtlcaofbangbjlaaChecked
import GoSem.Claim
import GoSem.ClaimJoined
import GoSem.ClaimMapViews
import Derived.JoinedTies
import Derived.KernelRfl
namespace Go.Proofs.Ytlcaofbangbjlaa
/- THE CELL 'sum', in the pinned program and in every row, IS THE sha256 OF THE DUMP (.gsa) THAT YtlcaofbangbjlaaProg.lean LOADS. Nothing in Lean hashes anything: it is a label: what it is worth is what the hold of that sum in a sandbox is worth. -/
noncomputable def Try.pinned : Pinned := { name := "ytlcaofbangbjlaa", sum := "a535848792d7eaa6964a63f49476e830ce76a242435e6842755d5ba8f8a43b94", checked := Try.checked }
namespace Rows
def none {H : Type} : Left H := { results := [], args := [] }

/-- 'laws.FnMixed': WHATEVER THE INPUT: true; the input reads as it did. -/
def fnMixedSpec : ChangeSpec := { name := "fnMixed", fn := fun _ => fun
  | [d] => { results := [.lit (.bool true)], args := [d] }
  | _ => none }
def fnMixedRow : OpenClaim := { program := "ytlcaofbangbjlaa", sum := "a535848792d7eaa6964a63f49476e830ce76a242435e6842755d5ba8f8a43b94", func := "loop.example/g00210/laws.FnMixed", spec := "fnMixed", apart := false }
def FnMixedSaid : Prop := fnMixedRow.holds Try.pinned (OpenSpec.ofChange fnMixedSpec)

/-- ITS FALSE NEIGHBOUR: 'it returns false'. Refute it at one input. -/
def fnMixedWrong : ChangeSpec := { name := "fnMixed", fn := fun _ => fun
  | [d] => { results := [.lit (.bool false)], args := [d] }
  | _ => none }
def FnMixedWrongFalsely : Prop := fnMixedRow.holds Try.pinned (OpenSpec.ofChange fnMixedWrong)

/-- 'laws.FnHex': WHATEVER THE INPUT: true; the input reads as it did. -/
def fnHexSpec : ChangeSpec := { name := "fnHex", fn := fun _ => fun
  | [d] => { results := [.lit (.bool true)], args := [d] }
  | _ => none }
def fnHexRow : OpenClaim := { program := "ytlcaofbangbjlaa", sum := "a535848792d7eaa6964a63f49476e830ce76a242435e6842755d5ba8f8a43b94", func := "loop.example/g00210/laws.FnHex", spec := "fnHex", inPlace := ["internal/bytealg.IndexByteString"], apart := false }
def FnHexSaid : Prop := fnHexRow.holds Try.pinned (OpenSpec.ofChange fnHexSpec)

/-- ITS FALSE NEIGHBOUR: 'it returns false'. Refute it at one input. -/
def fnHexWrong : ChangeSpec := { name := "fnHex", fn := fun _ => fun
  | [d] => { results := [.lit (.bool false)], args := [d] }
  | _ => none }
def FnHexWrongFalsely : Prop := fnHexRow.holds Try.pinned (OpenSpec.ofChange fnHexWrong)

/-- 'laws.FnExactRoll': WHATEVER THE INPUT: true; the input reads as it did. -/
def fnExactRollSpec : ChangeSpec := { name := "fnExactRoll", fn := fun _ => fun
  | [d1, d2] => { results := [.lit (.bool true)], args := [d1, d2] }
  | _ => none }
def fnExactRollRow : OpenClaim := { program := "ytlcaofbangbjlaa", sum := "a535848792d7eaa6964a63f49476e830ce76a242435e6842755d5ba8f8a43b94", func := "loop.example/g00210/laws.FnExactRoll", spec := "fnExactRoll", apart := false }
def FnExactRollSaid : Prop := fnExactRollRow.holds Try.pinned (OpenSpec.ofChange fnExactRollSpec)

/-- ITS FALSE NEIGHBOUR: 'it returns false'. Refute it at one input. -/
def fnExactRollWrong : ChangeSpec := { name := "fnExactRoll", fn := fun _ => fun
  | [d1, d2] => { results := [.lit (.bool false)], args := [d1, d2] }
  | _ => none }
def FnExactRollWrongFalsely : Prop := fnExactRollRow.holds Try.pinned (OpenSpec.ofChange fnExactRollWrong)

/-- 'laws.FnExactMix': WHATEVER THE INPUT: true; the input reads as it did. -/
def fnExactMixSpec : ChangeSpec := { name := "fnExactMix", fn := fun _ => fun
  | [d] => { results := [.lit (.bool true)], args := [d] }
  | _ => none }
def fnExactMixRow : OpenClaim := { program := "ytlcaofbangbjlaa", sum := "a535848792d7eaa6964a63f49476e830ce76a242435e6842755d5ba8f8a43b94", func := "loop.example/g00210/laws.FnExactMix", spec := "fnExactMix", apart := false }
def FnExactMixSaid : Prop := fnExactMixRow.holds Try.pinned (OpenSpec.ofChange fnExactMixSpec)

/-- ITS FALSE NEIGHBOUR: 'it returns false'. Refute it at one input. -/
def fnExactMixWrong : ChangeSpec := { name := "fnExactMix", fn := fun _ => fun
  | [d] => { results := [.lit (.bool false)], args := [d] }
  | _ => none }
def FnExactMixWrongFalsely : Prop := fnExactMixRow.holds Try.pinned (OpenSpec.ofChange fnExactMixWrong)

/-- 'laws.FnExactSip': WHATEVER THE INPUT: true; the input reads as it did. -/
def fnExactSipSpec : ChangeSpec := { name := "fnExactSip", fn := fun _ => fun
  | [d1, d2, d3] => { results := [.lit (.bool true)], args := [d1, d2, d3] }
  | _ => none }
def fnExactSipRow : OpenClaim := { program := "ytlcaofbangbjlaa", sum := "a535848792d7eaa6964a63f49476e830ce76a242435e6842755d5ba8f8a43b94", func := "loop.example/g00210/laws.FnExactSip", spec := "fnExactSip", apart := false }
def FnExactSipSaid : Prop := fnExactSipRow.holds Try.pinned (OpenSpec.ofChange fnExactSipSpec)

/-- ITS FALSE NEIGHBOUR: 'it returns false'. Refute it at one input. -/
def fnExactSipWrong : ChangeSpec := { name := "fnExactSip", fn := fun _ => fun
  | [d1, d2, d3] => { results := [.lit (.bool false)], args := [d1, d2, d3] }
  | _ => none }
def FnExactSipWrongFalsely : Prop := fnExactSipRow.holds Try.pinned (OpenSpec.ofChange fnExactSipWrong)

/-- 'laws.FnExactSum': WHATEVER THE INPUT: true; the input reads as it did. -/
def fnExactSumSpec : ChangeSpec := { name := "fnExactSum", fn := fun _ => fun
  | [d] => { results := [.lit (.bool true)], args := [d] }
  | _ => none }
def fnExactSumRow : OpenClaim := { program := "ytlcaofbangbjlaa", sum := "a535848792d7eaa6964a63f49476e830ce76a242435e6842755d5ba8f8a43b94", func := "loop.example/g00210/laws.FnExactSum", spec := "fnExactSum", apart := false }
def FnExactSumSaid : Prop := fnExactSumRow.holds Try.pinned (OpenSpec.ofChange fnExactSumSpec)

/-- ITS FALSE NEIGHBOUR: 'it returns false'. Refute it at one input. -/
def fnExactSumWrong : ChangeSpec := { name := "fnExactSum", fn := fun _ => fun
  | [d] => { results := [.lit (.bool false)], args := [d] }
  | _ => none }
def FnExactSumWrongFalsely : Prop := fnExactSumRow.holds Try.pinned (OpenSpec.ofChange fnExactSumWrong)

/-- 'laws.FnExactLongText': WHATEVER THE INPUT: true; the input reads as it did. -/
def fnExactLongTextSpec : ChangeSpec := { name := "fnExactLongText", fn := fun _ => fun
  | [d] => { results := [.lit (.bool true)], args := [d] }
  | _ => none }
def fnExactLongTextRow : OpenClaim := { program := "ytlcaofbangbjlaa", sum := "a535848792d7eaa6964a63f49476e830ce76a242435e6842755d5ba8f8a43b94", func := "loop.example/g00210/laws.FnExactLongText", spec := "fnExactLongText", apart := false }
def FnExactLongTextSaid : Prop := fnExactLongTextRow.holds Try.pinned (OpenSpec.ofChange fnExactLongTextSpec)

/-- ITS FALSE NEIGHBOUR: 'it returns false'. Refute it at one input. -/
def fnExactLongTextWrong : ChangeSpec := { name := "fnExactLongText", fn := fun _ => fun
  | [d] => { results := [.lit (.bool false)], args := [d] }
  | _ => none }
def FnExactLongTextWrongFalsely : Prop := fnExactLongTextRow.holds Try.pinned (OpenSpec.ofChange fnExactLongTextWrong)

/-- 'laws.FnExactHexText': WHATEVER THE INPUT: true; the input reads as it did. -/
def fnExactHexTextSpec : ChangeSpec := { name := "fnExactHexText", fn := fun _ => fun
  | [d] => { results := [.lit (.bool true)], args := [d] }
  | _ => none }
def fnExactHexTextRow : OpenClaim := { program := "ytlcaofbangbjlaa", sum := "a535848792d7eaa6964a63f49476e830ce76a242435e6842755d5ba8f8a43b94", func := "loop.example/g00210/laws.FnExactHexText", spec := "fnExactHexText", apart := false }
def FnExactHexTextSaid : Prop := fnExactHexTextRow.holds Try.pinned (OpenSpec.ofChange fnExactHexTextSpec)

/-- ITS FALSE NEIGHBOUR: 'it returns false'. Refute it at one input. -/
def fnExactHexTextWrong : ChangeSpec := { name := "fnExactHexText", fn := fun _ => fun
  | [d] => { results := [.lit (.bool false)], args := [d] }
  | _ => none }
def FnExactHexTextWrongFalsely : Prop := fnExactHexTextRow.holds Try.pinned (OpenSpec.ofChange fnExactHexTextWrong)

/-- 'laws.FnExactHexBytes': WHATEVER THE INPUT: true; the input reads as it did. -/
def fnExactHexBytesSpec : ChangeSpec := { name := "fnExactHexBytes", fn := fun _ => fun
  | [d] => { results := [.lit (.bool true)], args := [d] }
  | _ => none }
def fnExactHexBytesRow : OpenClaim := { program := "ytlcaofbangbjlaa", sum := "a535848792d7eaa6964a63f49476e830ce76a242435e6842755d5ba8f8a43b94", func := "loop.example/g00210/laws.FnExactHexBytes", spec := "fnExactHexBytes", inPlace := ["internal/bytealg.IndexByteString"], apart := false }
def FnExactHexBytesSaid : Prop := fnExactHexBytesRow.holds Try.pinned (OpenSpec.ofChange fnExactHexBytesSpec)

/-- ITS FALSE NEIGHBOUR: 'it returns false'. Refute it at one input. -/
def fnExactHexBytesWrong : ChangeSpec := { name := "fnExactHexBytes", fn := fun _ => fun
  | [d] => { results := [.lit (.bool false)], args := [d] }
  | _ => none }
def FnExactHexBytesWrongFalsely : Prop := fnExactHexBytesRow.holds Try.pinned (OpenSpec.ofChange fnExactHexBytesWrong)

/- THE SECOND FORM. 'bulk': how many values and letters a reading holds, each counted each time it is reached (what is shared counts as often as it is met; a slice's spare places count too). A statement '..UptoSaid' is the law's where the arguments, and the package variables that the reading takes, are together of bulk at most 1048576: NARROWER than '..Said'. Prove '..Said' where nothing that the law and all that it calls make is longer than what came in: it says more and counts as full. Else prove '..UptoSaid'. A law counts once. -/
mutual
def uptoBulk {H : Type} : DataW H → Nat
  | .lit (.string bytes) => bytes.length + 1
  | .lit _ => 1
  | .nil => 1
  | .ptr d => uptoBulk d + 1
  | .slice elems spare => uptoBulkAll elems + uptoBulkAll spare + 1
  | .agg parts => uptoBulkAll parts + 1
  | .iface _ d => uptoBulk d + 1
  | .map entries => uptoBulkEntries entries + 1
  | .held _ => 1
def uptoBulkAll {H : Type} : List (DataW H) → Nat
  | [] => 0
  | d :: r => uptoBulk d + uptoBulkAll r
def uptoBulkEntries {H : Type} : List (Lit × DataW H) → Nat
  | [] => 0
  | x :: r => uptoBulkEntry x + uptoBulkEntries r
def uptoBulkEntry {H : Type} : Lit × DataW H → Nat
  | (.string bytes, d) => bytes.length + uptoBulk d + 1
  | (_, d) => uptoBulk d + 1
 end
def uptoSmall : (H : Type) → List (DataW H) → Bool := fun _ ds => decide (uptoBulkAll ds ≤ 1048576)
def OpenSpec.upto (s : _root_.Go.ChangeSpec) : _root_.Go.OpenSpec := { _root_.Go.OpenSpec.ofChange s with cond := some uptoSmall }

/-- 'laws.FnMixed', WHERE WHAT IT READS IS OF BULK AT MOST 1048576: true; the input reads as it did. -/
def fnMixedUptoRow : OpenClaim := { program := "ytlcaofbangbjlaa", sum := "a535848792d7eaa6964a63f49476e830ce76a242435e6842755d5ba8f8a43b94", func := "loop.example/g00210/laws.FnMixed", spec := "fnMixed", apart := false, narrowed := true }
def FnMixedUptoSaid : Prop := fnMixedUptoRow.holds Try.pinned (OpenSpec.upto fnMixedSpec)

/-- 'laws.FnHex', WHERE WHAT IT READS IS OF BULK AT MOST 1048576: true; the input reads as it did. -/
def fnHexUptoRow : OpenClaim := { program := "ytlcaofbangbjlaa", sum := "a535848792d7eaa6964a63f49476e830ce76a242435e6842755d5ba8f8a43b94", func := "loop.example/g00210/laws.FnHex", spec := "fnHex", inPlace := ["internal/bytealg.IndexByteString"], apart := false, narrowed := true }
def FnHexUptoSaid : Prop := fnHexUptoRow.holds Try.pinned (OpenSpec.upto fnHexSpec)

/-- 'laws.FnExactRoll', WHERE WHAT IT READS IS OF BULK AT MOST 1048576: true; the input reads as it did. -/
def fnExactRollUptoRow : OpenClaim := { program := "ytlcaofbangbjlaa", sum := "a535848792d7eaa6964a63f49476e830ce76a242435e6842755d5ba8f8a43b94", func := "loop.example/g00210/laws.FnExactRoll", spec := "fnExactRoll", apart := false, narrowed := true }
def FnExactRollUptoSaid : Prop := fnExactRollUptoRow.holds Try.pinned (OpenSpec.upto fnExactRollSpec)

/-- 'laws.FnExactMix', WHERE WHAT IT READS IS OF BULK AT MOST 1048576: true; the input reads as it did. -/
def fnExactMixUptoRow : OpenClaim := { program := "ytlcaofbangbjlaa", sum := "a535848792d7eaa6964a63f49476e830ce76a242435e6842755d5ba8f8a43b94", func := "loop.example/g00210/laws.FnExactMix", spec := "fnExactMix", apart := false, narrowed := true }
def FnExactMixUptoSaid : Prop := fnExactMixUptoRow.holds Try.pinned (OpenSpec.upto fnExactMixSpec)

/-- 'laws.FnExactSip', WHERE WHAT IT READS IS OF BULK AT MOST 1048576: true; the input reads as it did. -/
def fnExactSipUptoRow : OpenClaim := { program := "ytlcaofbangbjlaa", sum := "a535848792d7eaa6964a63f49476e830ce76a242435e6842755d5ba8f8a43b94", func := "loop.example/g00210/laws.FnExactSip", spec := "fnExactSip", apart := false, narrowed := true }
def FnExactSipUptoSaid : Prop := fnExactSipUptoRow.holds Try.pinned (OpenSpec.upto fnExactSipSpec)

/-- 'laws.FnExactSum', WHERE WHAT IT READS IS OF BULK AT MOST 1048576: true; the input reads as it did. -/
def fnExactSumUptoRow : OpenClaim := { program := "ytlcaofbangbjlaa", sum := "a535848792d7eaa6964a63f49476e830ce76a242435e6842755d5ba8f8a43b94", func := "loop.example/g00210/laws.FnExactSum", spec := "fnExactSum", apart := false, narrowed := true }
def FnExactSumUptoSaid : Prop := fnExactSumUptoRow.holds Try.pinned (OpenSpec.upto fnExactSumSpec)

/-- 'laws.FnExactLongText', WHERE WHAT IT READS IS OF BULK AT MOST 1048576: true; the input reads as it did. -/
def fnExactLongTextUptoRow : OpenClaim := { program := "ytlcaofbangbjlaa", sum := "a535848792d7eaa6964a63f49476e830ce76a242435e6842755d5ba8f8a43b94", func := "loop.example/g00210/laws.FnExactLongText", spec := "fnExactLongText", apart := false, narrowed := true }
def FnExactLongTextUptoSaid : Prop := fnExactLongTextUptoRow.holds Try.pinned (OpenSpec.upto fnExactLongTextSpec)

/-- 'laws.FnExactHexText', WHERE WHAT IT READS IS OF BULK AT MOST 1048576: true; the input reads as it did. -/
def fnExactHexTextUptoRow : OpenClaim := { program := "ytlcaofbangbjlaa", sum := "a535848792d7eaa6964a63f49476e830ce76a242435e6842755d5ba8f8a43b94", func := "loop.example/g00210/laws.FnExactHexText", spec := "fnExactHexText", apart := false, narrowed := true }
def FnExactHexTextUptoSaid : Prop := fnExactHexTextUptoRow.holds Try.pinned (OpenSpec.upto fnExactHexTextSpec)

/-- 'laws.FnExactHexBytes', WHERE WHAT IT READS IS OF BULK AT MOST 1048576: true; the input reads as it did. -/
def fnExactHexBytesUptoRow : OpenClaim := { program := "ytlcaofbangbjlaa", sum := "a535848792d7eaa6964a63f49476e830ce76a242435e6842755d5ba8f8a43b94", func := "loop.example/g00210/laws.FnExactHexBytes", spec := "fnExactHexBytes", inPlace := ["internal/bytealg.IndexByteString"], apart := false, narrowed := true }
def FnExactHexBytesUptoSaid : Prop := fnExactHexBytesUptoRow.holds Try.pinned (OpenSpec.upto fnExactHexBytesSpec)

end Rows
end Go.Proofs.Ytlcaofbangbjlaa
