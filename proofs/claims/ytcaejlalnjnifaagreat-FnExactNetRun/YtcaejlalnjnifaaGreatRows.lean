/-
  No cell of these rows narrows 'for every input' (looked for: loops, veiled, ifaces, maps, wideKeys, modest, calm, conditions, laid).
  DERIVED. THE GIVEN ROWS OF THIS SEAT. 4 by the template 'for every input the law returns true; each argument reads behind the call as it read before'; 0 by the template 'total and deterministic' (their statements: YtcaejlalnjnifaaGreatTotals.lean).
  GIVEN WITH THE SEED: the statements are not yours to turn. If you find one false, say at which input.
  Laid BY PROGRAM, IN A SANDBOX (cutbox-rows.mjs): the forced cells as the released guide's own fill.sh prints them over the translation b4de7e739faeb620… (all of the seat's roots in one cut). By AI agents, Wed Nov 11 2026. No macro, syntax, notation, axiom, sorry.
-/
import Derived.Test.YtcaejlalnjnifaaGreatChecked
import GoSem.Claim
import GoSem.ClaimJoined
import GoSem.ClaimMapViews
import Derived.JoinedTies
import Derived.KernelRfl
namespace Go.Proofs.YtcaejlalnjnifaaGreat
/- THE CELL 'sum', in the pinned program and in every row, IS THE sha256 OF THE DUMP (.gsa) THAT YtcaejlalnjnifaaGreatProg.lean LOADS. Nothing in Lean hashes anything: it is a label: what it is worth is what the hold of that sum in a sandbox is worth. -/
noncomputable def Tryz.pinned : Pinned := { name := "ytcaejlalnjnifaagreat", sum := "b4de7e739faeb6205f8080fbbe4293b33c023834c587b4f958635bf08a719a7e", checked := Tryz.checked }
namespace Rows
def none {H : Type} : Left H := { results := [], args := [] }

/-- 'laws.FnNode': WHATEVER THE INPUT: true; the input reads as it did. -/
def fnNodeSpec : ChangeSpec := { name := "fnNode", fn := fun _ => fun
  | [d] => { results := [.lit (.bool true)], args := [d] }
  | _ => none }
def fnNodeRow : OpenClaim := { program := "ytcaejlalnjnifaagreat", sum := "b4de7e739faeb6205f8080fbbe4293b33c023834c587b4f958635bf08a719a7e", func := "loop.example/g00210/laws.FnNode", spec := "fnNode", inPlace := ["slices.overlaps[int]"], unfollowed := true, recurses := true, plainKeys := false, apart := false }
def FnNodeSaid : Prop := fnNodeRow.holds Tryz.pinned (OpenSpec.ofChange fnNodeSpec)

/-- ITS FALSE NEIGHBOUR: 'it returns false'. Refute it at one input. -/
def fnNodeWrong : ChangeSpec := { name := "fnNode", fn := fun _ => fun
  | [d] => { results := [.lit (.bool false)], args := [d] }
  | _ => none }
def FnNodeWrongFalsely : Prop := fnNodeRow.holds Tryz.pinned (OpenSpec.ofChange fnNodeWrong)

/-- 'laws.FnNet': WHATEVER THE INPUT: true; the input reads as it did. -/
def fnNetSpec : ChangeSpec := { name := "fnNet", fn := fun _ => fun
  | [d] => { results := [.lit (.bool true)], args := [d] }
  | _ => none }
def fnNetRow : OpenClaim := { program := "ytcaejlalnjnifaagreat", sum := "b4de7e739faeb6205f8080fbbe4293b33c023834c587b4f958635bf08a719a7e", func := "loop.example/g00210/laws.FnNet", spec := "fnNet", inPlace := ["slices.overlaps[int]"], unfollowed := true, recurses := true, plainKeys := false, apart := false }
def FnNetSaid : Prop := fnNetRow.holds Tryz.pinned (OpenSpec.ofChange fnNetSpec)

/-- ITS FALSE NEIGHBOUR: 'it returns false'. Refute it at one input. -/
def fnNetWrong : ChangeSpec := { name := "fnNet", fn := fun _ => fun
  | [d] => { results := [.lit (.bool false)], args := [d] }
  | _ => none }
def FnNetWrongFalsely : Prop := fnNetRow.holds Tryz.pinned (OpenSpec.ofChange fnNetWrong)

/-- 'laws.FnExactNetDo': WHATEVER THE INPUT: true; the input reads as it did. -/
def fnExactNetDoSpec : ChangeSpec := { name := "fnExactNetDo", fn := fun _ => fun
  | [d1, d2] => { results := [.lit (.bool true)], args := [d1, d2] }
  | _ => none }
def fnExactNetDoRow : OpenClaim := { program := "ytcaejlalnjnifaagreat", sum := "b4de7e739faeb6205f8080fbbe4293b33c023834c587b4f958635bf08a719a7e", func := "loop.example/g00210/laws.FnExactNetDo", spec := "fnExactNetDo", inPlace := ["slices.overlaps[int]"], unfollowed := true, recurses := true, plainKeys := false, apart := false }
def FnExactNetDoSaid : Prop := fnExactNetDoRow.holds Tryz.pinned (OpenSpec.ofChange fnExactNetDoSpec)

/-- ITS FALSE NEIGHBOUR: 'it returns false'. Refute it at one input. -/
def fnExactNetDoWrong : ChangeSpec := { name := "fnExactNetDo", fn := fun _ => fun
  | [d1, d2] => { results := [.lit (.bool false)], args := [d1, d2] }
  | _ => none }
def FnExactNetDoWrongFalsely : Prop := fnExactNetDoRow.holds Tryz.pinned (OpenSpec.ofChange fnExactNetDoWrong)

/-- 'laws.FnExactNetRun': WHATEVER THE INPUT: true; the input reads as it did. -/
def fnExactNetRunSpec : ChangeSpec := { name := "fnExactNetRun", fn := fun _ => fun
  | [d1, d2] => { results := [.lit (.bool true)], args := [d1, d2] }
  | _ => none }
def fnExactNetRunRow : OpenClaim := { program := "ytcaejlalnjnifaagreat", sum := "b4de7e739faeb6205f8080fbbe4293b33c023834c587b4f958635bf08a719a7e", func := "loop.example/g00210/laws.FnExactNetRun", spec := "fnExactNetRun", inPlace := ["slices.overlaps[int]"], unfollowed := true, recurses := true, plainKeys := false, apart := false }
def FnExactNetRunSaid : Prop := fnExactNetRunRow.holds Tryz.pinned (OpenSpec.ofChange fnExactNetRunSpec)

/-- ITS FALSE NEIGHBOUR: 'it returns false'. Refute it at one input. -/
def fnExactNetRunWrong : ChangeSpec := { name := "fnExactNetRun", fn := fun _ => fun
  | [d1, d2] => { results := [.lit (.bool false)], args := [d1, d2] }
  | _ => none }
def FnExactNetRunWrongFalsely : Prop := fnExactNetRunRow.holds Tryz.pinned (OpenSpec.ofChange fnExactNetRunWrong)

/- THE SECOND FORM. 'bulk': how many values and letters a reading holds, each counted each time it is reached (what is shared counts as often as it is met; a slice's spare places count too). A statement '..UptoSaid' is the law's where the arguments, and the package variables that the reading takes, are together of bulk at most 1048576: NARROWER than '..Said'. Prove '..Said' where nothing that the law and all that it calls make is longer than what came in: it says more and counts as full. Else prove '..UptoSaid'. A law counts once. -/
mutual
def uptoBulk {H : Type} : DataW H → Nat
  | .lit (.string bytes) => bytes.length + 1
  | .lit _ => 1
  | .nil => 1
  | .ptr d => uptoBulk d + 1
  | .slice elems spare => uptoBulkAll elems + uptoBulkAll spare + 1
  | .agg parts => uptoBulkAll parts + 1
  | .iface _ d => uptoBulk d + 1
  | .map entries => uptoBulkEntries entries + 1
  | .held _ => 1
def uptoBulkAll {H : Type} : List (DataW H) → Nat
  | [] => 0
  | d :: r => uptoBulk d + uptoBulkAll r
def uptoBulkEntries {H : Type} : List (Lit × DataW H) → Nat
  | [] => 0
  | x :: r => uptoBulkEntry x + uptoBulkEntries r
def uptoBulkEntry {H : Type} : Lit × DataW H → Nat
  | (.string bytes, d) => bytes.length + uptoBulk d + 1
  | (_, d) => uptoBulk d + 1
 end
def uptoSmall : (H : Type) → List (DataW H) → Bool := fun _ ds => decide (uptoBulkAll ds ≤ 1048576)
def OpenSpec.upto (s : _root_.Go.ChangeSpec) : _root_.Go.OpenSpec := { _root_.Go.OpenSpec.ofChange s with cond := some uptoSmall }

/-- 'laws.FnNode', WHERE WHAT IT READS IS OF BULK AT MOST 1048576: true; the input reads as it did. -/
def fnNodeUptoRow : OpenClaim := { program := "ytcaejlalnjnifaagreat", sum := "b4de7e739faeb6205f8080fbbe4293b33c023834c587b4f958635bf08a719a7e", func := "loop.example/g00210/laws.FnNode", spec := "fnNode", inPlace := ["slices.overlaps[int]"], unfollowed := true, recurses := true, plainKeys := false, apart := false, narrowed := true }
def FnNodeUptoSaid : Prop := fnNodeUptoRow.holds Tryz.pinned (OpenSpec.upto fnNodeSpec)

/-- 'laws.FnNet', WHERE WHAT IT READS IS OF BULK AT MOST 1048576: true; the input reads as it did. -/
def fnNetUptoRow : OpenClaim := { program := "ytcaejlalnjnifaagreat", sum := "b4de7e739faeb6205f8080fbbe4293b33c023834c587b4f958635bf08a719a7e", func := "loop.example/g00210/laws.FnNet", spec := "fnNet", inPlace := ["slices.overlaps[int]"], unfollowed := true, recurses := true, plainKeys := false, apart := false, narrowed := true }
def FnNetUptoSaid : Prop := fnNetUptoRow.holds Tryz.pinned (OpenSpec.upto fnNetSpec)

/-- 'laws.FnExactNetDo', WHERE WHAT IT READS IS OF BULK AT MOST 1048576: true; the input reads as it did. -/
def fnExactNetDoUptoRow : OpenClaim := { program := "ytcaejlalnjnifaagreat", sum := "b4de7e739faeb6205f8080fbbe4293b33c023834c587b4f958635bf08a719a7e", func := "loop.example/g00210/laws.FnExactNetDo", spec := "fnExactNetDo", inPlace := ["slices.overlaps[int]"], unfollowed := true, recurses := true, plainKeys := false, apart := false, narrowed := true }
def FnExactNetDoUptoSaid : Prop := fnExactNetDoUptoRow.holds Tryz.pinned (OpenSpec.upto fnExactNetDoSpec)

/-- 'laws.FnExactNetRun', WHERE WHAT IT READS IS OF BULK AT MOST 1048576: true; the input reads as it did. -/
def fnExactNetRunUptoRow : OpenClaim := { program := "ytcaejlalnjnifaagreat", sum := "b4de7e739faeb6205f8080fbbe4293b33c023834c587b4f958635bf08a719a7e", func := "loop.example/g00210/laws.FnExactNetRun", spec := "fnExactNetRun", inPlace := ["slices.overlaps[int]"], unfollowed := true, recurses := true, plainKeys := false, apart := false, narrowed := true }
def FnExactNetRunUptoSaid : Prop := fnExactNetRunUptoRow.holds Tryz.pinned (OpenSpec.upto fnExactNetRunSpec)

end Rows
end Go.Proofs.YtcaejlalnjnifaaGreat
