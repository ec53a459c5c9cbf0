/- The sixteen bytes that stand for a text, in the program and in its model: what each answers. Condition: a text of at most 2^20 bytes. -/
import Derived.Test.YtkcnpkkihbpnmaaDoorD11
import Derived.Test.YtkcnpkkihbpnmaaDoorD8
import Derived.Test.YtkcnpkkihbpnmaaDoorD6
import Derived.Deep.RegionHeld3
import Derived.Deep.AppendLies
import Derived.Test.YtkcnpkkihbpnmaaDoorD5
import Derived.Sort.LoopGhostIn
import Derived.Test.YtkcnpkkihbpnmaaDoorD10
import Derived.Lib.Strings
import Derived.Lib.Walk
import Derived.Lib.BufferWrite
import Derived.Lib.UnsafeStr
import Derived.Lib.Hide
import Derived.Laws.MakeOwn
import Derived.Test.YtkcnpkkihbpnmaaDoorD4
import Derived.Laws.CopyRow
namespace Go.Proofs.YtkcnpkkihbpnmaaDoor
set_option maxRecDepth 2000
open Go.ChangeShapes Go.WideShapes Go.ChangeAt Go.RowKit
open Gs (U)

def sumS (s : ByteArray) : ByteArray := strOfNums (lx (Gs.sip (tat s) 1#64 2#64 s.size)) ++ strOfNums (lx (Gs.sip (tat s) 3#64 4#64 s.size))
end Go.Proofs.YtkcnpkkihbpnmaaDoor
/- Trees over texts by plain functions: the row above a row, the root, a proof, the root that a proof leads to. No condition but what each law says; nothing of the program is named but the sum of a text. -/
namespace Go.Proofs.YtkcnpkkihbpnmaaDoor
set_option maxRecDepth 2000
namespace Gt

/-- The sum of a byte 1 and two texts. -/
def jn (a b : ByteArray) : ByteArray := sumS ((⟨#[1]⟩ : ByteArray) ++ a ++ b)
def lf (s : ByteArray) : ByteArray := sumS ((⟨#[0]⟩ : ByteArray) ++ s)
/-- The neighbour's place. -/
def nb (i : Nat) : Nat := if i % 2 = 0 then i + 1 else i - 1
def hf (n : Nat) : Nat := (n + 1) / 2
/-- The row above a row of m. -/
def up (m : Nat) (R : Nat → ByteArray) : Nat → ByteArray := fun i => if 2 * i + 1 < m then jn (R (2 * i)) (R (2 * i + 1)) else if 2 * i < m then R (2 * i) else ByteArray.empty
/-- The root over a row. -/
def rt (n : Nat) (R : Nat → ByteArray) : ByteArray := if _h : n ≤ 1 then R 0 else rt (hf n) (up n R)
  termination_by n
  decreasing_by unfold hf; omega
/-- How many texts a proof has. -/
def pl (i n : Nat) : Nat := if _h : n ≤ 1 then 0 else (if nb i < n then 1 else 0) + pl (i / 2) (hf n)
  termination_by n
  decreasing_by unfold hf; omega
/-- The root that a leaf and a proof, from its text at 'c' on, lead to. -/
def pr (x : ByteArray) (i n : Nat) (P : Nat → ByteArray) (c : Nat) : ByteArray :=
  if _h : n ≤ 1 then x else if nb i < n then pr (if i % 2 = 0 then jn x (P c) else jn (P c) x) (i / 2) (hf n) P (c + 1) else pr x (i / 2) (hf n) P c
  termination_by n
  decreasing_by all_goals (unfold hf; omega)
/-- The next place that is joined, or the top. -/
def nm (p s : Nat) : Nat × Nat := if _h : s ≤ 1 then (p, s) else if nb p < s then (p, s) else nm (p / 2) (hf s)
  termination_by s
  decreasing_by unfold hf; omega
end Gt
end Go.Proofs.YtkcnpkkihbpnmaaDoor
/- Leaves and joins, in the program and in its model: what each answers. Condition: texts of at most 2^20 bytes. -/
namespace Go.Proofs.YtkcnpkkihbpnmaaDoor
set_option maxRecDepth 2000
open Go.ChangeShapes Go.WideShapes Go.ChangeAt Go.RowKit
open Gt (jn lf)

end Go.Proofs.YtkcnpkkihbpnmaaDoor
/- A place in a row of so many, in the program: whether it is one, its neighbour, the place above it. Conditions: for the neighbour and the place above it at most 2^20 in the row. -/
namespace Go.Proofs.YtkcnpkkihbpnmaaDoor
set_option maxRecDepth 2000
open Go.ChangeShapes Go.WideShapes Go.ChangeAt Go.RowKit
open Gt (nb hf)

end Go.Proofs.YtkcnpkkihbpnmaaDoor
/- The places on the way up from a place, in the program, that are joined: the contract of the iterator that tells them. Condition: a place of a row of at most 64. -/
namespace Go.Proofs.YtkcnpkkihbpnmaaDoor
set_option maxRecDepth 2000
open Go.ChangeShapes Go.WideShapes Go.ChangeAt Go.RowKit Go.Shelf
open Gt (nb hf nm)

end Go.Proofs.YtkcnpkkihbpnmaaDoor
/- The row above a row, in the model. Conditions: at most 64 in the row, each of sixteen bytes. -/
namespace Go.Proofs.YtkcnpkkihbpnmaaDoor
set_option maxRecDepth 2000
open Go.ChangeShapes Go.WideShapes Go.ChangeAt Go.RowKit
open Gt (hf up jn)

end Go.Proofs.YtkcnpkkihbpnmaaDoor
/- The leaf of a piece's body, in the program and in its model: what each answers. Condition: a body of at most 2^20 bytes. -/
namespace Go.Proofs.YtkcnpkkihbpnmaaDoor
set_option maxRecDepth 2000
open Go.ChangeShapes Go.WideShapes Go.ChangeAt Go.RowKit
open Gt (lf)

end Go.Proofs.YtkcnpkkihbpnmaaDoor
/- How many texts a proof has, in the program: at every two numbers. No condition. -/
namespace Go.Proofs.YtkcnpkkihbpnmaaDoor
set_option maxRecDepth 2000
open Go.ChangeShapes Go.WideShapes Go.ChangeAt Go.RowKit Go.Shelf
open Gt (nb hf nm pl)

theorem Row.grown {w w' : World} {g j : Nat} {t : TypeId} {cs : Array Value} (h : Row w g t cs) (hg : w.grownBy w' (some j)) (hj : g ≠ j) : Row w' g t cs := (hg.block g h.lt (by simpa using hj)).trans h
end Go.Proofs.YtkcnpkkihbpnmaaDoor
/- How many texts a proof has, in the model: at every two numbers. No condition. -/
namespace Go.Proofs.YtkcnpkkihbpnmaaDoor
set_option maxRecDepth 2000
open Go.ChangeShapes Go.WideShapes Go.ChangeAt Go.RowKit
open Gt (nb hf pl)

end Go.Proofs.YtkcnpkkihbpnmaaDoor
/- Whether texts are sums, in the program and in its model; a text cloned. Conditions: at most 2^20 texts; a text of at most 2^20 bytes. -/
namespace Go.Proofs.YtkcnpkkihbpnmaaDoor
set_option maxRecDepth 2000
open Go.ChangeShapes Go.WideShapes Go.ChangeAt Go.RowKit

end Go.Proofs.YtkcnpkkihbpnmaaDoor
/- The root that a leaf and a proof lead to, in the program: where they are not so. Conditions: at most 2^20 texts. -/
namespace Go.Proofs.YtkcnpkkihbpnmaaDoor
set_option maxRecDepth 2000
open Go.ChangeShapes Go.WideShapes Go.ChangeAt Go.RowKit Go.Shelf
open Gt (nb hf nm pl pr jn)

end Go.Proofs.YtkcnpkkihbpnmaaDoor
/- Rows of 64 texts and a number, as the program has them: what is built, laid, loaded and stored of one, as laws of the walk. No condition but what each says. -/
namespace Go.Proofs.YtkcnpkkihbpnmaaDoor
set_option maxRecDepth 2000
open Go.RowKit

/-! ### Laws of the walk -/
section
variable {P : Program} {F : Fence} {n : Nat} {ops : Array Oper} {rest : List Oper} {o : Oper} {a : Act} {w : World} {Q : Exit → Act → World → Prop}
end
section
variable {F : Fence} {n : Nat} {ops : Array Oper} {rest : List Oper} {o : Oper} {a : Act} {w : World} {Q : Exit → Act → World → Prop}
end
end Go.Proofs.YtkcnpkkihbpnmaaDoor
/- The row above a row, in the program. Conditions: at most 64 in the row, each of sixteen bytes. -/
namespace Go.Proofs.YtkcnpkkihbpnmaaDoor
set_option maxRecDepth 2000
open Go.ChangeShapes Go.WideShapes Go.ChangeAt Go.RowKit
open Gt (nb hf up jn)

end Go.Proofs.YtkcnpkkihbpnmaaDoor
/- The lowest row of a tree, in the program: what is made of the leaves. Conditions: at most 2^20 texts. -/
namespace Go.Proofs.YtkcnpkkihbpnmaaDoor
set_option maxRecDepth 2000
open Go.ChangeShapes Go.WideShapes Go.ChangeAt Go.RowKit

end Go.Proofs.YtkcnpkkihbpnmaaDoor
/- The root that a leaf and a proof lead to, in the program. Conditions: at most 2^20 texts. -/
namespace Go.Proofs.YtkcnpkkihbpnmaaDoor
set_option maxRecDepth 2000
open Go.ChangeShapes Go.WideShapes Go.ChangeAt Go.RowKit Go.Shelf
open Gt (nb hf nm pl pr jn)

end Go.Proofs.YtkcnpkkihbpnmaaDoor
/- The root that a leaf and a proof lead to, in the model; what the program answers in one contract; whether it is a given root, in both. Conditions: at most 2^20 texts. -/
namespace Go.Proofs.YtkcnpkkihbpnmaaDoor
set_option maxRecDepth 2000
open Go.ChangeShapes Go.WideShapes Go.ChangeAt Go.RowKit
open Gt (nb hf nm pl pr jn)

end Go.Proofs.YtkcnpkkihbpnmaaDoor
/- The rows of a tree from a row up, in the program: the contract of the iterator that tells them. Conditions: one to 64 texts of sixteen bytes. -/
namespace Go.Proofs.YtkcnpkkihbpnmaaDoor
set_option maxRecDepth 2000
open Go.ChangeShapes Go.WideShapes Go.ChangeAt Go.RowKit Go.Shelf
open Gt (hf up)

end Go.Proofs.YtkcnpkkihbpnmaaDoor
/- Whether a proof leads to a root, in the program and in its model: what each answers. Conditions: at most 2^20 texts. -/
namespace Go.Proofs.YtkcnpkkihbpnmaaDoor
set_option maxRecDepth 2000
open Go.ChangeShapes Go.WideShapes Go.ChangeAt Go.RowKit

end Go.Proofs.YtkcnpkkihbpnmaaDoor
/- The root over leaves, in the program. Conditions: at most 2^20 texts. -/
namespace Go.Proofs.YtkcnpkkihbpnmaaDoor
set_option maxRecDepth 2000
open Go.ChangeShapes Go.WideShapes Go.ChangeAt Go.RowKit Go.Shelf
open Gt (hf up rt)

end Go.Proofs.YtkcnpkkihbpnmaaDoor
/- A leaf's proof, in the program. Conditions: at most 2^20 texts. -/
namespace Go.Proofs.YtkcnpkkihbpnmaaDoor
set_option maxRecDepth 2000
open Go.ChangeShapes Go.WideShapes Go.ChangeAt Go.RowKit Go.Shelf
open Gt (hf up nb pl)

end Go.Proofs.YtkcnpkkihbpnmaaDoor
/- The root over leaves, in the model. Conditions: at most 2^20 texts. -/
namespace Go.Proofs.YtkcnpkkihbpnmaaDoor
set_option maxRecDepth 2000
open Go.ChangeShapes Go.WideShapes Go.ChangeAt Go.RowKit
open Gt (hf up rt)

end Go.Proofs.YtkcnpkkihbpnmaaDoor
/- A leaf's proof, in the program: where there is one. -/
namespace Go.Proofs.YtkcnpkkihbpnmaaDoor
set_option maxRecDepth 2000
open Go.ChangeShapes Go.WideShapes Go.ChangeAt Go.RowKit Go.Shelf
open Gt (hf up nb pl)

end Go.Proofs.YtkcnpkkihbpnmaaDoor
/- A leaf's proof, in the model; what the program answers in one contract. Conditions: at most 2^20 texts. -/
namespace Go.Proofs.YtkcnpkkihbpnmaaDoor
set_option maxRecDepth 2000
open Go.ChangeShapes Go.WideShapes Go.ChangeAt Go.RowKit
open Gt (hf up nb pl)

end Go.Proofs.YtkcnpkkihbpnmaaDoor
/- All bodies that go together, bound under one root, in the program. Conditions: at most 64 bodies of at most 2^20 bytes. -/
namespace Go.Proofs.YtkcnpkkihbpnmaaDoor
set_option maxRecDepth 2000
open Go.ChangeShapes Go.WideShapes Go.ChangeAt Go.RowKit

end Go.Proofs.YtkcnpkkihbpnmaaDoor
