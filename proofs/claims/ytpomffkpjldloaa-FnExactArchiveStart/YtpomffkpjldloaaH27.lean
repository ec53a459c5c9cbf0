/- Marks laid into lists of sayings, and asked for. Conditions: at most 64 sayings, whose proofs have at most 1000 texts. Written by mkmark.py. -/
import Derived.Test.YtpomffkpjldloaaH16
import Derived.Test.YtpomffkpjldloaaH25
namespace Go.Proofs.Ytpomffkpjldloaa
set_option maxRecDepth 2000
open Go.ChangeShapes Go.WideShapes Go.ChangeAt Go.RowKit

/-- The first mark of saying i. -/
def ofy (k : Nat) (S : Nat → Sy) : Nat → Nat
  | 0 => k
  | i + 1 => ofy k S i + 9 + (S i).p.m
theorem ofy_le (k : Nat) (S : Nat → Sy) {i j : Nat} (h : i ≤ j) : ofy k S i ≤ ofy k S j := by
  induction j with
  | zero => obtain rfl : i = 0 := by omega
            exact Nat.le_refl _
  | succ j ih =>
    by_cases e : i = j + 1
    · subst e; exact Nat.le_refl _
    · have := ih (by omega)
      show _ ≤ ofy k S j + 9 + (S j).p.m
      omega
/-- The sayings, marked from k on. -/
def mkdY (k : Nat) (S : Nat → Sy) (i : Nat) : Sy := ⟨((ofy k S i : Nat) : Int), ((ofy k S i + 1 : Nat) : Int), ((ofy k S i + 2 : Nat) : Int), mtxt (ofy k S i + 3), ⟨mtxt (ofy k S i + 4), ((ofy k S i + 5 : Nat) : Int), ((ofy k S i + 6 : Nat) : Int), ((ofy k S i + 7 : Nat) : Int), mtxt (ofy k S i + 8), (S i).p.m, fun j => mtxt (ofy k S i + 9 + j)⟩⟩
end Go.Proofs.Ytpomffkpjldloaa
