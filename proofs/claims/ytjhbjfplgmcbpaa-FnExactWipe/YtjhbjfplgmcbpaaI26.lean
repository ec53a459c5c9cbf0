/- Marks laid into a list of slots: the call ends with a number, and turns blocks of the list's alone. Conditions: lists of at most 2^20. Written by mkmarks.py. -/
import Derived.Test.YtjhbjfplgmcbpaaI23
import Derived.Test.YtjhbjfplgmcbpaaI24
namespace Go.Proofs.Ytjhbjfplgmcbpaa
set_option maxRecDepth 2000
open Go.ChangeShapes Go.WideShapes Go.ChangeAt Go.RowKit

/-- How many marks a slot takes. -/
def wkS (s : Sl) : Nat := 10 + s.p.m + s.ze.length + s.zr.length
theorem tot_step {g : Nat → Nat} {c n : Nat} (h : c < n) : tot g c + g c ≤ tot g n := by
  induction n with
  | zero => omega
  | succ n ih =>
    rw [show tot g (n + 1) = tot g n + g n from rfl]
    by_cases e : c = n
    · subst e; omega
    · have := ih (by omega); omega
end Go.Proofs.Ytjhbjfplgmcbpaa
