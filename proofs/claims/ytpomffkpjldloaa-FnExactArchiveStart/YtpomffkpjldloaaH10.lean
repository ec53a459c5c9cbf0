/- The sixteen bytes that stand for a text, in the program and in its model: what each answers. Condition: a text of at most 2^20 bytes. -/
import Derived.Test.YtpomffkpjldloaaH6
namespace Go.Proofs.Ytpomffkpjldloaa
set_option maxRecDepth 2000
open Go.ChangeShapes Go.WideShapes Go.ChangeAt Go.RowKit
open Gs (U)

def sumS (s : ByteArray) : ByteArray := strOfNums (lx (Gs.sip (tat s) 1#64 2#64 s.size)) ++ strOfNums (lx (Gs.sip (tat s) 3#64 4#64 s.size))
end Go.Proofs.Ytpomffkpjldloaa
/- Trees over texts by plain functions: the row above a row, the root, a proof, the root that a proof leads to. No condition but what each law says; nothing of the program is named but the sum of a text. -/
namespace Go.Proofs.Ytpomffkpjldloaa
set_option maxRecDepth 2000
namespace Gt

/-- The sum of a byte 1 and two texts. -/
def jn (a b : ByteArray) : ByteArray := sumS ((⟨#[1]⟩ : ByteArray) ++ a ++ b)
def lf (s : ByteArray) : ByteArray := sumS ((⟨#[0]⟩ : ByteArray) ++ s)
/-- The neighbour's place. -/
def nb (i : Nat) : Nat := if i % 2 = 0 then i + 1 else i - 1
def hf (n : Nat) : Nat := (n + 1) / 2
/-- The row above a row of m. -/
def up (m : Nat) (R : Nat → ByteArray) : Nat → ByteArray := fun i => if 2 * i + 1 < m then jn (R (2 * i)) (R (2 * i + 1)) else if 2 * i < m then R (2 * i) else ByteArray.empty
/-- The root over a row. -/
def rt (n : Nat) (R : Nat → ByteArray) : ByteArray := if _h : n ≤ 1 then R 0 else rt (hf n) (up n R)
  termination_by n
  decreasing_by unfold hf; omega
/-- How many texts a proof has. -/
def pl (i n : Nat) : Nat := if _h : n ≤ 1 then 0 else (if nb i < n then 1 else 0) + pl (i / 2) (hf n)
  termination_by n
  decreasing_by unfold hf; omega
/-- The root that a leaf and a proof, from its text at 'c' on, lead to. -/
def pr (x : ByteArray) (i n : Nat) (P : Nat → ByteArray) (c : Nat) : ByteArray :=
  if _h : n ≤ 1 then x else if nb i < n then pr (if i % 2 = 0 then jn x (P c) else jn (P c) x) (i / 2) (hf n) P (c + 1) else pr x (i / 2) (hf n) P c
  termination_by n
  decreasing_by all_goals (unfold hf; omega)
/-- The next place that is joined, or the top. -/
def nm (p s : Nat) : Nat × Nat := if _h : s ≤ 1 then (p, s) else if nb p < s then (p, s) else nm (p / 2) (hf s)
  termination_by s
  decreasing_by unfold hf; omega
end Gt
end Go.Proofs.Ytpomffkpjldloaa
/- Leaves and joins, in the program and in its model: what each answers. Condition: texts of at most 2^20 bytes. -/
namespace Go.Proofs.Ytpomffkpjldloaa
set_option maxRecDepth 2000
open Go.ChangeShapes Go.WideShapes Go.ChangeAt Go.RowKit
open Gt (jn lf)

end Go.Proofs.Ytpomffkpjldloaa
/- The leaf of a piece's body, in the program and in its model: what each answers. Condition: a body of at most 2^20 bytes. -/
namespace Go.Proofs.Ytpomffkpjldloaa
set_option maxRecDepth 2000
open Go.ChangeShapes Go.WideShapes Go.ChangeAt Go.RowKit
open Gt (lf)

end Go.Proofs.Ytpomffkpjldloaa
