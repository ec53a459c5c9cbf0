/- Marks laid into a list of slots: the call ends with a number, and turns blocks of the list's alone. Conditions: lists of at most 2^20. Written by mkmarks.py. -/
import Derived.Test.YtkcnpkkihbpnmaaDoorD25
import Derived.Test.YtkcnpkkihbpnmaaDoorD26
import Derived.Test.YtkcnpkkihbpnmaaDoorD21
import Derived.Lib.QuietBelow
import Derived.BigQuiet
namespace Go.Proofs.YtkcnpkkihbpnmaaDoor
set_option maxRecDepth 2000
open Go.ChangeShapes Go.WideShapes Go.ChangeAt Go.RowKit

/-- How many marks a slot takes. -/
def wkS (s : Sl) : Nat := 10 + s.p.m + s.ze.length + s.zr.length
theorem tot_step {g : Nat → Nat} {c n : Nat} (h : c < n) : tot g c + g c ≤ tot g n := by
  induction n with
  | zero => omega
  | succ n ih =>
    rw [show tot g (n + 1) = tot g n + g n from rfl]
    by_cases e : c = n
    · subst e; omega
    · have := ih (by omega); omega
end Go.Proofs.YtkcnpkkihbpnmaaDoor
/- Marks laid into a list of slots and asked for: all that is written. Conditions: lists of at most 2^20. Written by mkmarkf.py. -/
namespace Go.Proofs.YtkcnpkkihbpnmaaDoor
set_option maxRecDepth 2000
open Go.ChangeShapes Go.WideShapes Go.ChangeAt Go.RowKit Go.Sort

end Go.Proofs.YtkcnpkkihbpnmaaDoor
