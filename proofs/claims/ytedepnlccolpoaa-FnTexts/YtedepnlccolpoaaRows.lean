/-
  No cell of these rows narrows 'for every input' (looked for: loops, veiled, ifaces, maps, wideKeys, modest, calm, conditions, laid).
  DERIVED. THE GIVEN ROWS OF THIS SEAT. 13 by the template 'for every input the law returns true; each argument reads behind the call as it read before'; 0 by the template 'total and deterministic' (their statements: YtedepnlccolpoaaTotals.lean).
  GIVEN WITH THE SEED: the statements are not yours to turn. If you find one false, say at which input.
  Laid BY PROGRAM, IN A SANDBOX (cutbox-rows.mjs): the forced cells as the released guide's own fill.sh prints them over the translation 7bf36038f1468dbc… (all of the seat's roots in one cut). By AI agents, Wed Nov 11 2026. No macro, syntax, notation, axiom, sorry.
-/
import Derived.Test.YtedepnlccolpoaaChecked
import GoSem.Claim
import GoSem.ClaimJoined
import GoSem.ClaimMapViews
import Derived.JoinedTies
import Derived.KernelRfl
namespace Go.Proofs.Ytedepnlccolpoaa
/- THE CELL 'sum', in the pinned program and in every row, IS THE sha256 OF THE DUMP (.gsa) THAT YtedepnlccolpoaaProg.lean LOADS. Nothing in Lean hashes anything: it is a label: what it is worth is what the hold of that sum in a sandbox is worth. -/
noncomputable def Try.pinned : Pinned := { name := "ytedepnlccolpoaa", sum := "7bf36038f1468dbcfc63d4addaec0d14bd038d5a51eaab13e7c0b1f002ca9c8a", checked := Try.checked }
namespace Rows
def none {H : Type} : Left H := { results := [], args := [] }

/-- 'laws.FnField': WHATEVER THE INPUT: true; the input reads as it did. -/
def fnFieldSpec : ChangeSpec := { name := "fnField", fn := fun _ => fun
  | [d] => { results := [.lit (.bool true)], args := [d] }
  | _ => none }
def fnFieldRow : OpenClaim := { program := "ytedepnlccolpoaa", sum := "7bf36038f1468dbcfc63d4addaec0d14bd038d5a51eaab13e7c0b1f002ca9c8a", func := "loop.example/g00210/laws.FnField", spec := "fnField", apart := false }
def FnFieldSaid : Prop := fnFieldRow.holds Try.pinned (OpenSpec.ofChange fnFieldSpec)

/-- ITS FALSE NEIGHBOUR: 'it returns false'. Refute it at one input. -/
def fnFieldWrong : ChangeSpec := { name := "fnField", fn := fun _ => fun
  | [d] => { results := [.lit (.bool false)], args := [d] }
  | _ => none }
def FnFieldWrongFalsely : Prop := fnFieldRow.holds Try.pinned (OpenSpec.ofChange fnFieldWrong)

/-- 'laws.FnPowers': WHATEVER THE INPUT: true; the input reads as it did. -/
def fnPowersSpec : ChangeSpec := { name := "fnPowers", fn := fun _ => fun
  | [d] => { results := [.lit (.bool true)], args := [d] }
  | _ => none }
def fnPowersRow : OpenClaim := { program := "ytedepnlccolpoaa", sum := "7bf36038f1468dbcfc63d4addaec0d14bd038d5a51eaab13e7c0b1f002ca9c8a", func := "loop.example/g00210/laws.FnPowers", spec := "fnPowers", apart := false }
def FnPowersSaid : Prop := fnPowersRow.holds Try.pinned (OpenSpec.ofChange fnPowersSpec)

/-- ITS FALSE NEIGHBOUR: 'it returns false'. Refute it at one input. -/
def fnPowersWrong : ChangeSpec := { name := "fnPowers", fn := fun _ => fun
  | [d] => { results := [.lit (.bool false)], args := [d] }
  | _ => none }
def FnPowersWrongFalsely : Prop := fnPowersRow.holds Try.pinned (OpenSpec.ofChange fnPowersWrong)

/-- 'laws.FnTexts': WHATEVER THE INPUT: true; the input reads as it did. -/
def fnTextsSpec : ChangeSpec := { name := "fnTexts", fn := fun _ => fun
  | [d] => { results := [.lit (.bool true)], args := [d] }
  | _ => none }
def fnTextsRow : OpenClaim := { program := "ytedepnlccolpoaa", sum := "7bf36038f1468dbcfc63d4addaec0d14bd038d5a51eaab13e7c0b1f002ca9c8a", func := "loop.example/g00210/laws.FnTexts", spec := "fnTexts", apart := false }
def FnTextsSaid : Prop := fnTextsRow.holds Try.pinned (OpenSpec.ofChange fnTextsSpec)

/-- ITS FALSE NEIGHBOUR: 'it returns false'. Refute it at one input. -/
def fnTextsWrong : ChangeSpec := { name := "fnTexts", fn := fun _ => fun
  | [d] => { results := [.lit (.bool false)], args := [d] }
  | _ => none }
def FnTextsWrongFalsely : Prop := fnTextsRow.holds Try.pinned (OpenSpec.ofChange fnTextsWrong)

/-- 'laws.FnExactAdd': WHATEVER THE INPUT: true; the input reads as it did. -/
def fnExactAddSpec : ChangeSpec := { name := "fnExactAdd", fn := fun _ => fun
  | [d1, d2] => { results := [.lit (.bool true)], args := [d1, d2] }
  | _ => none }
def fnExactAddRow : OpenClaim := { program := "ytedepnlccolpoaa", sum := "7bf36038f1468dbcfc63d4addaec0d14bd038d5a51eaab13e7c0b1f002ca9c8a", func := "loop.example/g00210/laws.FnExactAdd", spec := "fnExactAdd", apart := false }
def FnExactAddSaid : Prop := fnExactAddRow.holds Try.pinned (OpenSpec.ofChange fnExactAddSpec)

/-- ITS FALSE NEIGHBOUR: 'it returns false'. Refute it at one input. -/
def fnExactAddWrong : ChangeSpec := { name := "fnExactAdd", fn := fun _ => fun
  | [d1, d2] => { results := [.lit (.bool false)], args := [d1, d2] }
  | _ => none }
def FnExactAddWrongFalsely : Prop := fnExactAddRow.holds Try.pinned (OpenSpec.ofChange fnExactAddWrong)

/-- 'laws.FnExactMul': WHATEVER THE INPUT: true; the input reads as it did. -/
def fnExactMulSpec : ChangeSpec := { name := "fnExactMul", fn := fun _ => fun
  | [d1, d2] => { results := [.lit (.bool true)], args := [d1, d2] }
  | _ => none }
def fnExactMulRow : OpenClaim := { program := "ytedepnlccolpoaa", sum := "7bf36038f1468dbcfc63d4addaec0d14bd038d5a51eaab13e7c0b1f002ca9c8a", func := "loop.example/g00210/laws.FnExactMul", spec := "fnExactMul", apart := false }
def FnExactMulSaid : Prop := fnExactMulRow.holds Try.pinned (OpenSpec.ofChange fnExactMulSpec)

/-- ITS FALSE NEIGHBOUR: 'it returns false'. Refute it at one input. -/
def fnExactMulWrong : ChangeSpec := { name := "fnExactMul", fn := fun _ => fun
  | [d1, d2] => { results := [.lit (.bool false)], args := [d1, d2] }
  | _ => none }
def FnExactMulWrongFalsely : Prop := fnExactMulRow.holds Try.pinned (OpenSpec.ofChange fnExactMulWrong)

/-- 'laws.FnExactPow': WHATEVER THE INPUT: true; the input reads as it did. -/
def fnExactPowSpec : ChangeSpec := { name := "fnExactPow", fn := fun _ => fun
  | [d1, d2] => { results := [.lit (.bool true)], args := [d1, d2] }
  | _ => none }
def fnExactPowRow : OpenClaim := { program := "ytedepnlccolpoaa", sum := "7bf36038f1468dbcfc63d4addaec0d14bd038d5a51eaab13e7c0b1f002ca9c8a", func := "loop.example/g00210/laws.FnExactPow", spec := "fnExactPow", apart := false }
def FnExactPowSaid : Prop := fnExactPowRow.holds Try.pinned (OpenSpec.ofChange fnExactPowSpec)

/-- ITS FALSE NEIGHBOUR: 'it returns false'. Refute it at one input. -/
def fnExactPowWrong : ChangeSpec := { name := "fnExactPow", fn := fun _ => fun
  | [d1, d2] => { results := [.lit (.bool false)], args := [d1, d2] }
  | _ => none }
def FnExactPowWrongFalsely : Prop := fnExactPowRow.holds Try.pinned (OpenSpec.ofChange fnExactPowWrong)

/-- 'laws.FnExactInv': WHATEVER THE INPUT: true; the input reads as it did. -/
def fnExactInvSpec : ChangeSpec := { name := "fnExactInv", fn := fun _ => fun
  | [d] => { results := [.lit (.bool true)], args := [d] }
  | _ => none }
def fnExactInvRow : OpenClaim := { program := "ytedepnlccolpoaa", sum := "7bf36038f1468dbcfc63d4addaec0d14bd038d5a51eaab13e7c0b1f002ca9c8a", func := "loop.example/g00210/laws.FnExactInv", spec := "fnExactInv", apart := false }
def FnExactInvSaid : Prop := fnExactInvRow.holds Try.pinned (OpenSpec.ofChange fnExactInvSpec)

/-- ITS FALSE NEIGHBOUR: 'it returns false'. Refute it at one input. -/
def fnExactInvWrong : ChangeSpec := { name := "fnExactInv", fn := fun _ => fun
  | [d] => { results := [.lit (.bool false)], args := [d] }
  | _ => none }
def FnExactInvWrongFalsely : Prop := fnExactInvRow.holds Try.pinned (OpenSpec.ofChange fnExactInvWrong)

/-- 'laws.FnExactDiv': WHATEVER THE INPUT: true; the input reads as it did. -/
def fnExactDivSpec : ChangeSpec := { name := "fnExactDiv", fn := fun _ => fun
  | [d1, d2] => { results := [.lit (.bool true)], args := [d1, d2] }
  | _ => none }
def fnExactDivRow : OpenClaim := { program := "ytedepnlccolpoaa", sum := "7bf36038f1468dbcfc63d4addaec0d14bd038d5a51eaab13e7c0b1f002ca9c8a", func := "loop.example/g00210/laws.FnExactDiv", spec := "fnExactDiv", apart := false }
def FnExactDivSaid : Prop := fnExactDivRow.holds Try.pinned (OpenSpec.ofChange fnExactDivSpec)

/-- ITS FALSE NEIGHBOUR: 'it returns false'. Refute it at one input. -/
def fnExactDivWrong : ChangeSpec := { name := "fnExactDiv", fn := fun _ => fun
  | [d1, d2] => { results := [.lit (.bool false)], args := [d1, d2] }
  | _ => none }
def FnExactDivWrongFalsely : Prop := fnExactDivRow.holds Try.pinned (OpenSpec.ofChange fnExactDivWrong)

/-- 'laws.FnExactExp': WHATEVER THE INPUT: true; the input reads as it did. -/
def fnExactExpSpec : ChangeSpec := { name := "fnExactExp", fn := fun _ => fun
  | [d] => { results := [.lit (.bool true)], args := [d] }
  | _ => none }
def fnExactExpRow : OpenClaim := { program := "ytedepnlccolpoaa", sum := "7bf36038f1468dbcfc63d4addaec0d14bd038d5a51eaab13e7c0b1f002ca9c8a", func := "loop.example/g00210/laws.FnExactExp", spec := "fnExactExp", apart := false }
def FnExactExpSaid : Prop := fnExactExpRow.holds Try.pinned (OpenSpec.ofChange fnExactExpSpec)

/-- ITS FALSE NEIGHBOUR: 'it returns false'. Refute it at one input. -/
def fnExactExpWrong : ChangeSpec := { name := "fnExactExp", fn := fun _ => fun
  | [d] => { results := [.lit (.bool false)], args := [d] }
  | _ => none }
def FnExactExpWrongFalsely : Prop := fnExactExpRow.holds Try.pinned (OpenSpec.ofChange fnExactExpWrong)

/-- 'laws.FnExactLog': WHATEVER THE INPUT: true; the input reads as it did. -/
def fnExactLogSpec : ChangeSpec := { name := "fnExactLog", fn := fun _ => fun
  | [d] => { results := [.lit (.bool true)], args := [d] }
  | _ => none }
def fnExactLogRow : OpenClaim := { program := "ytedepnlccolpoaa", sum := "7bf36038f1468dbcfc63d4addaec0d14bd038d5a51eaab13e7c0b1f002ca9c8a", func := "loop.example/g00210/laws.FnExactLog", spec := "fnExactLog", apart := false }
def FnExactLogSaid : Prop := fnExactLogRow.holds Try.pinned (OpenSpec.ofChange fnExactLogSpec)

/-- ITS FALSE NEIGHBOUR: 'it returns false'. Refute it at one input. -/
def fnExactLogWrong : ChangeSpec := { name := "fnExactLog", fn := fun _ => fun
  | [d] => { results := [.lit (.bool false)], args := [d] }
  | _ => none }
def FnExactLogWrongFalsely : Prop := fnExactLogRow.holds Try.pinned (OpenSpec.ofChange fnExactLogWrong)

/-- 'laws.FnExactDot': WHATEVER THE INPUT: true; the input reads as it did. -/
def fnExactDotSpec : ChangeSpec := { name := "fnExactDot", fn := fun _ => fun
  | [d1, d2] => { results := [.lit (.bool true)], args := [d1, d2] }
  | _ => none }
def fnExactDotRow : OpenClaim := { program := "ytedepnlccolpoaa", sum := "7bf36038f1468dbcfc63d4addaec0d14bd038d5a51eaab13e7c0b1f002ca9c8a", func := "loop.example/g00210/laws.FnExactDot", spec := "fnExactDot", apart := false }
def FnExactDotSaid : Prop := fnExactDotRow.holds Try.pinned (OpenSpec.ofChange fnExactDotSpec)

/-- ITS FALSE NEIGHBOUR: 'it returns false'. Refute it at one input. -/
def fnExactDotWrong : ChangeSpec := { name := "fnExactDot", fn := fun _ => fun
  | [d1, d2] => { results := [.lit (.bool false)], args := [d1, d2] }
  | _ => none }
def FnExactDotWrongFalsely : Prop := fnExactDotRow.holds Try.pinned (OpenSpec.ofChange fnExactDotWrong)

/-- 'laws.FnExactScaleText': WHATEVER THE INPUT: true; the input reads as it did. -/
def fnExactScaleTextSpec : ChangeSpec := { name := "fnExactScaleText", fn := fun _ => fun
  | [d1, d2] => { results := [.lit (.bool true)], args := [d1, d2] }
  | _ => none }
def fnExactScaleTextRow : OpenClaim := { program := "ytedepnlccolpoaa", sum := "7bf36038f1468dbcfc63d4addaec0d14bd038d5a51eaab13e7c0b1f002ca9c8a", func := "loop.example/g00210/laws.FnExactScaleText", spec := "fnExactScaleText", apart := false }
def FnExactScaleTextSaid : Prop := fnExactScaleTextRow.holds Try.pinned (OpenSpec.ofChange fnExactScaleTextSpec)

/-- ITS FALSE NEIGHBOUR: 'it returns false'. Refute it at one input. -/
def fnExactScaleTextWrong : ChangeSpec := { name := "fnExactScaleText", fn := fun _ => fun
  | [d1, d2] => { results := [.lit (.bool false)], args := [d1, d2] }
  | _ => none }
def FnExactScaleTextWrongFalsely : Prop := fnExactScaleTextRow.holds Try.pinned (OpenSpec.ofChange fnExactScaleTextWrong)

/-- 'laws.FnExactAddTexts': WHATEVER THE INPUT: true; the input reads as it did. -/
def fnExactAddTextsSpec : ChangeSpec := { name := "fnExactAddTexts", fn := fun _ => fun
  | [d1, d2] => { results := [.lit (.bool true)], args := [d1, d2] }
  | _ => none }
def fnExactAddTextsRow : OpenClaim := { program := "ytedepnlccolpoaa", sum := "7bf36038f1468dbcfc63d4addaec0d14bd038d5a51eaab13e7c0b1f002ca9c8a", func := "loop.example/g00210/laws.FnExactAddTexts", spec := "fnExactAddTexts", apart := false }
def FnExactAddTextsSaid : Prop := fnExactAddTextsRow.holds Try.pinned (OpenSpec.ofChange fnExactAddTextsSpec)

/-- ITS FALSE NEIGHBOUR: 'it returns false'. Refute it at one input. -/
def fnExactAddTextsWrong : ChangeSpec := { name := "fnExactAddTexts", fn := fun _ => fun
  | [d1, d2] => { results := [.lit (.bool false)], args := [d1, d2] }
  | _ => none }
def FnExactAddTextsWrongFalsely : Prop := fnExactAddTextsRow.holds Try.pinned (OpenSpec.ofChange fnExactAddTextsWrong)

/- THE SECOND FORM. 'bulk': how many values and letters a reading holds, each counted each time it is reached (what is shared counts as often as it is met; a slice's spare places count too). A statement '..UptoSaid' is the law's where the arguments, and the package variables that the reading takes, are together of bulk at most 1048576: NARROWER than '..Said'. Prove '..Said' where nothing that the law and all that it calls make is longer than what came in: it says more and counts as full. Else prove '..UptoSaid'. A law counts once. -/
mutual
def uptoBulk {H : Type} : DataW H → Nat
  | .lit (.string bytes) => bytes.length + 1
  | .lit _ => 1
  | .nil => 1
  | .ptr d => uptoBulk d + 1
  | .slice elems spare => uptoBulkAll elems + uptoBulkAll spare + 1
  | .agg parts => uptoBulkAll parts + 1
  | .iface _ d => uptoBulk d + 1
  | .map entries => uptoBulkEntries entries + 1
  | .held _ => 1
def uptoBulkAll {H : Type} : List (DataW H) → Nat
  | [] => 0
  | d :: r => uptoBulk d + uptoBulkAll r
def uptoBulkEntries {H : Type} : List (Lit × DataW H) → Nat
  | [] => 0
  | x :: r => uptoBulkEntry x + uptoBulkEntries r
def uptoBulkEntry {H : Type} : Lit × DataW H → Nat
  | (.string bytes, d) => bytes.length + uptoBulk d + 1
  | (_, d) => uptoBulk d + 1
 end
def uptoSmall : (H : Type) → List (DataW H) → Bool := fun _ ds => decide (uptoBulkAll ds ≤ 1048576)
def OpenSpec.upto (s : _root_.Go.ChangeSpec) : _root_.Go.OpenSpec := { _root_.Go.OpenSpec.ofChange s with cond := some uptoSmall }

/-- 'laws.FnField', WHERE WHAT IT READS IS OF BULK AT MOST 1048576: true; the input reads as it did. -/
def fnFieldUptoRow : OpenClaim := { program := "ytedepnlccolpoaa", sum := "7bf36038f1468dbcfc63d4addaec0d14bd038d5a51eaab13e7c0b1f002ca9c8a", func := "loop.example/g00210/laws.FnField", spec := "fnField", apart := false, narrowed := true }
def FnFieldUptoSaid : Prop := fnFieldUptoRow.holds Try.pinned (OpenSpec.upto fnFieldSpec)

/-- 'laws.FnPowers', WHERE WHAT IT READS IS OF BULK AT MOST 1048576: true; the input reads as it did. -/
def fnPowersUptoRow : OpenClaim := { program := "ytedepnlccolpoaa", sum := "7bf36038f1468dbcfc63d4addaec0d14bd038d5a51eaab13e7c0b1f002ca9c8a", func := "loop.example/g00210/laws.FnPowers", spec := "fnPowers", apart := false, narrowed := true }
def FnPowersUptoSaid : Prop := fnPowersUptoRow.holds Try.pinned (OpenSpec.upto fnPowersSpec)

/-- 'laws.FnTexts', WHERE WHAT IT READS IS OF BULK AT MOST 1048576: true; the input reads as it did. -/
def fnTextsUptoRow : OpenClaim := { program := "ytedepnlccolpoaa", sum := "7bf36038f1468dbcfc63d4addaec0d14bd038d5a51eaab13e7c0b1f002ca9c8a", func := "loop.example/g00210/laws.FnTexts", spec := "fnTexts", apart := false, narrowed := true }
def FnTextsUptoSaid : Prop := fnTextsUptoRow.holds Try.pinned (OpenSpec.upto fnTextsSpec)

/-- 'laws.FnExactAdd', WHERE WHAT IT READS IS OF BULK AT MOST 1048576: true; the input reads as it did. -/
def fnExactAddUptoRow : OpenClaim := { program := "ytedepnlccolpoaa", sum := "7bf36038f1468dbcfc63d4addaec0d14bd038d5a51eaab13e7c0b1f002ca9c8a", func := "loop.example/g00210/laws.FnExactAdd", spec := "fnExactAdd", apart := false, narrowed := true }
def FnExactAddUptoSaid : Prop := fnExactAddUptoRow.holds Try.pinned (OpenSpec.upto fnExactAddSpec)

/-- 'laws.FnExactMul', WHERE WHAT IT READS IS OF BULK AT MOST 1048576: true; the input reads as it did. -/
def fnExactMulUptoRow : OpenClaim := { program := "ytedepnlccolpoaa", sum := "7bf36038f1468dbcfc63d4addaec0d14bd038d5a51eaab13e7c0b1f002ca9c8a", func := "loop.example/g00210/laws.FnExactMul", spec := "fnExactMul", apart := false, narrowed := true }
def FnExactMulUptoSaid : Prop := fnExactMulUptoRow.holds Try.pinned (OpenSpec.upto fnExactMulSpec)

/-- 'laws.FnExactPow', WHERE WHAT IT READS IS OF BULK AT MOST 1048576: true; the input reads as it did. -/
def fnExactPowUptoRow : OpenClaim := { program := "ytedepnlccolpoaa", sum := "7bf36038f1468dbcfc63d4addaec0d14bd038d5a51eaab13e7c0b1f002ca9c8a", func := "loop.example/g00210/laws.FnExactPow", spec := "fnExactPow", apart := false, narrowed := true }
def FnExactPowUptoSaid : Prop := fnExactPowUptoRow.holds Try.pinned (OpenSpec.upto fnExactPowSpec)

/-- 'laws.FnExactInv', WHERE WHAT IT READS IS OF BULK AT MOST 1048576: true; the input reads as it did. -/
def fnExactInvUptoRow : OpenClaim := { program := "ytedepnlccolpoaa", sum := "7bf36038f1468dbcfc63d4addaec0d14bd038d5a51eaab13e7c0b1f002ca9c8a", func := "loop.example/g00210/laws.FnExactInv", spec := "fnExactInv", apart := false, narrowed := true }
def FnExactInvUptoSaid : Prop := fnExactInvUptoRow.holds Try.pinned (OpenSpec.upto fnExactInvSpec)

/-- 'laws.FnExactDiv', WHERE WHAT IT READS IS OF BULK AT MOST 1048576: true; the input reads as it did. -/
def fnExactDivUptoRow : OpenClaim := { program := "ytedepnlccolpoaa", sum := "7bf36038f1468dbcfc63d4addaec0d14bd038d5a51eaab13e7c0b1f002ca9c8a", func := "loop.example/g00210/laws.FnExactDiv", spec := "fnExactDiv", apart := false, narrowed := true }
def FnExactDivUptoSaid : Prop := fnExactDivUptoRow.holds Try.pinned (OpenSpec.upto fnExactDivSpec)

/-- 'laws.FnExactExp', WHERE WHAT IT READS IS OF BULK AT MOST 1048576: true; the input reads as it did. -/
def fnExactExpUptoRow : OpenClaim := { program := "ytedepnlccolpoaa", sum := "7bf36038f1468dbcfc63d4addaec0d14bd038d5a51eaab13e7c0b1f002ca9c8a", func := "loop.example/g00210/laws.FnExactExp", spec := "fnExactExp", apart := false, narrowed := true }
def FnExactExpUptoSaid : Prop := fnExactExpUptoRow.holds Try.pinned (OpenSpec.upto fnExactExpSpec)

/-- 'laws.FnExactLog', WHERE WHAT IT READS IS OF BULK AT MOST 1048576: true; the input reads as it did. -/
def fnExactLogUptoRow : OpenClaim := { program := "ytedepnlccolpoaa", sum := "7bf36038f1468dbcfc63d4addaec0d14bd038d5a51eaab13e7c0b1f002ca9c8a", func := "loop.example/g00210/laws.FnExactLog", spec := "fnExactLog", apart := false, narrowed := true }
def FnExactLogUptoSaid : Prop := fnExactLogUptoRow.holds Try.pinned (OpenSpec.upto fnExactLogSpec)

/-- 'laws.FnExactDot', WHERE WHAT IT READS IS OF BULK AT MOST 1048576: true; the input reads as it did. -/
def fnExactDotUptoRow : OpenClaim := { program := "ytedepnlccolpoaa", sum := "7bf36038f1468dbcfc63d4addaec0d14bd038d5a51eaab13e7c0b1f002ca9c8a", func := "loop.example/g00210/laws.FnExactDot", spec := "fnExactDot", apart := false, narrowed := true }
def FnExactDotUptoSaid : Prop := fnExactDotUptoRow.holds Try.pinned (OpenSpec.upto fnExactDotSpec)

/-- 'laws.FnExactScaleText', WHERE WHAT IT READS IS OF BULK AT MOST 1048576: true; the input reads as it did. -/
def fnExactScaleTextUptoRow : OpenClaim := { program := "ytedepnlccolpoaa", sum := "7bf36038f1468dbcfc63d4addaec0d14bd038d5a51eaab13e7c0b1f002ca9c8a", func := "loop.example/g00210/laws.FnExactScaleText", spec := "fnExactScaleText", apart := false, narrowed := true }
def FnExactScaleTextUptoSaid : Prop := fnExactScaleTextUptoRow.holds Try.pinned (OpenSpec.upto fnExactScaleTextSpec)

/-- 'laws.FnExactAddTexts', WHERE WHAT IT READS IS OF BULK AT MOST 1048576: true; the input reads as it did. -/
def fnExactAddTextsUptoRow : OpenClaim := { program := "ytedepnlccolpoaa", sum := "7bf36038f1468dbcfc63d4addaec0d14bd038d5a51eaab13e7c0b1f002ca9c8a", func := "loop.example/g00210/laws.FnExactAddTexts", spec := "fnExactAddTexts", apart := false, narrowed := true }
def FnExactAddTextsUptoSaid : Prop := fnExactAddTextsUptoRow.holds Try.pinned (OpenSpec.upto fnExactAddTextsSpec)

end Rows
end Go.Proofs.Ytedepnlccolpoaa
