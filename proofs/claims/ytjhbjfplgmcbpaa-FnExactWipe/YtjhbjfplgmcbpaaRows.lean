/-
  No cell of these rows narrows 'for every input' (looked for: loops, veiled, ifaces, maps, wideKeys, modest, calm, conditions, laid).
  DERIVED. THE GIVEN ROWS OF THIS SEAT. 2 by the template 'for every input the law returns true; each argument reads behind the call as it read before'; 0 by the template 'total and deterministic' (their statements: YtjhbjfplgmcbpaaTotals.lean).
  GIVEN WITH THE SEED: the statements are not yours to turn. If you find one false, say at which input.
  Laid BY PROGRAM, IN A SANDBOX (cutbox-rows.mjs): the forced cells as the released guide's own fill.sh prints them over the translation 9313f5d6f048d1b5… (all of the seat's roots in one cut). By AI agents, Wed Nov 11 2026. No macro, syntax, notation, axiom, sorry.
-/
import Derived.Test.YtjhbjfplgmcbpaaChecked
import GoSem.Claim
import GoSem.ClaimJoined
import GoSem.ClaimMapViews
import Derived.JoinedTies
import Derived.KernelRfl
namespace Go.Proofs.Ytjhbjfplgmcbpaa
/- THE CELL 'sum', in the pinned program and in every row, IS THE sha256 OF THE DUMP (.gsa) THAT YtjhbjfplgmcbpaaProg.lean LOADS. Nothing in Lean hashes anything: it is a label: what it is worth is what the hold of that sum in a sandbox is worth. -/
noncomputable def Try.pinned : Pinned := { name := "ytjhbjfplgmcbpaa", sum := "9313f5d6f048d1b56b522ba23bd6d6a882486b2db8b1de0d96d78aed8a3d29d1", checked := Try.checked }
namespace Rows
def none {H : Type} : Left H := { results := [], args := [] }

/-- 'laws.FnExactWipe': WHATEVER THE INPUT: true; the input reads as it did. -/
def fnExactWipeSpec : ChangeSpec := { name := "fnExactWipe", fn := fun _ => fun
  | [d1, d2] => { results := [.lit (.bool true)], args := [d1, d2] }
  | _ => none }
def fnExactWipeRow : OpenClaim := { program := "ytjhbjfplgmcbpaa", sum := "9313f5d6f048d1b56b522ba23bd6d6a882486b2db8b1de0d96d78aed8a3d29d1", func := "loop.example/g00210/laws.FnExactWipe", spec := "fnExactWipe", plainKeys := false, apart := false }
def FnExactWipeSaid : Prop := fnExactWipeRow.holds Try.pinned (OpenSpec.ofChange fnExactWipeSpec)

/-- ITS FALSE NEIGHBOUR: 'it returns false'. Refute it at one input. -/
def fnExactWipeWrong : ChangeSpec := { name := "fnExactWipe", fn := fun _ => fun
  | [d1, d2] => { results := [.lit (.bool false)], args := [d1, d2] }
  | _ => none }
def FnExactWipeWrongFalsely : Prop := fnExactWipeRow.holds Try.pinned (OpenSpec.ofChange fnExactWipeWrong)

/-- 'laws.FnExactHealthy': WHATEVER THE INPUT: true; the input reads as it did. -/
def fnExactHealthySpec : ChangeSpec := { name := "fnExactHealthy", fn := fun _ => fun
  | [d1, d2] => { results := [.lit (.bool true)], args := [d1, d2] }
  | _ => none }
def fnExactHealthyRow : OpenClaim := { program := "ytjhbjfplgmcbpaa", sum := "9313f5d6f048d1b56b522ba23bd6d6a882486b2db8b1de0d96d78aed8a3d29d1", func := "loop.example/g00210/laws.FnExactHealthy", spec := "fnExactHealthy", unfollowed := true, recurses := true, plainKeys := false, apart := false }
def FnExactHealthySaid : Prop := fnExactHealthyRow.holds Try.pinned (OpenSpec.ofChange fnExactHealthySpec)

/-- ITS FALSE NEIGHBOUR: 'it returns false'. Refute it at one input. -/
def fnExactHealthyWrong : ChangeSpec := { name := "fnExactHealthy", fn := fun _ => fun
  | [d1, d2] => { results := [.lit (.bool false)], args := [d1, d2] }
  | _ => none }
def FnExactHealthyWrongFalsely : Prop := fnExactHealthyRow.holds Try.pinned (OpenSpec.ofChange fnExactHealthyWrong)

/- THE SECOND FORM. 'bulk': how many values and letters a reading holds, each counted each time it is reached (what is shared counts as often as it is met; a slice's spare places count too). A statement '..UptoSaid' is the law's where the arguments, and the package variables that the reading takes, are together of bulk at most 1048576: NARROWER than '..Said'. Prove '..Said' where nothing that the law and all that it calls make is longer than what came in: it says more and counts as full. Else prove '..UptoSaid'. A law counts once. -/
mutual
def uptoBulk {H : Type} : DataW H → Nat
  | .lit (.string bytes) => bytes.length + 1
  | .lit _ => 1
  | .nil => 1
  | .ptr d => uptoBulk d + 1
  | .slice elems spare => uptoBulkAll elems + uptoBulkAll spare + 1
  | .agg parts => uptoBulkAll parts + 1
  | .iface _ d => uptoBulk d + 1
  | .map entries => uptoBulkEntries entries + 1
  | .held _ => 1
def uptoBulkAll {H : Type} : List (DataW H) → Nat
  | [] => 0
  | d :: r => uptoBulk d + uptoBulkAll r
def uptoBulkEntries {H : Type} : List (Lit × DataW H) → Nat
  | [] => 0
  | x :: r => uptoBulkEntry x + uptoBulkEntries r
def uptoBulkEntry {H : Type} : Lit × DataW H → Nat
  | (.string bytes, d) => bytes.length + uptoBulk d + 1
  | (_, d) => uptoBulk d + 1
 end
def uptoSmall : (H : Type) → List (DataW H) → Bool := fun _ ds => decide (uptoBulkAll ds ≤ 1048576)
def OpenSpec.upto (s : _root_.Go.ChangeSpec) : _root_.Go.OpenSpec := { _root_.Go.OpenSpec.ofChange s with cond := some uptoSmall }

/-- 'laws.FnExactWipe', WHERE WHAT IT READS IS OF BULK AT MOST 1048576: true; the input reads as it did. -/
def fnExactWipeUptoRow : OpenClaim := { program := "ytjhbjfplgmcbpaa", sum := "9313f5d6f048d1b56b522ba23bd6d6a882486b2db8b1de0d96d78aed8a3d29d1", func := "loop.example/g00210/laws.FnExactWipe", spec := "fnExactWipe", plainKeys := false, apart := false, narrowed := true }
def FnExactWipeUptoSaid : Prop := fnExactWipeUptoRow.holds Try.pinned (OpenSpec.upto fnExactWipeSpec)

/-- 'laws.FnExactHealthy', WHERE WHAT IT READS IS OF BULK AT MOST 1048576: true; the input reads as it did. -/
def fnExactHealthyUptoRow : OpenClaim := { program := "ytjhbjfplgmcbpaa", sum := "9313f5d6f048d1b56b522ba23bd6d6a882486b2db8b1de0d96d78aed8a3d29d1", func := "loop.example/g00210/laws.FnExactHealthy", spec := "fnExactHealthy", unfollowed := true, recurses := true, plainKeys := false, apart := false, narrowed := true }
def FnExactHealthyUptoSaid : Prop := fnExactHealthyUptoRow.holds Try.pinned (OpenSpec.upto fnExactHealthySpec)

end Rows
end Go.Proofs.Ytjhbjfplgmcbpaa
