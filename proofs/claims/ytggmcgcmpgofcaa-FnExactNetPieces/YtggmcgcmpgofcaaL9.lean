/- The draws of texts and lists: what each gives, at any bytes. Condition: at most 2^20 bytes of code, and a text or list of at most 16. -/
import Derived.Test.YtggmcgcmpgofcaaL6
import Derived.Deep.AppendLies
namespace Go.Proofs.Ytggmcgcmpgofcaa
set_option maxRecDepth 2000
open Go.ChangeShapes Go.WideShapes Go.ChangeAt Go.RowKit

/-- The code's bytes lie below the cursor. -/
def Under (a : Option Addr) (n g : Nat) : Prop := 0 < n → ∀ b off, a = some ⟨b, off, none⟩ → b < g
theorem CodeAt.under {w : World} {a : Option Addr} {n g : Nat} (h : CodeAt w a n) (hg : w.heap.size ≤ g) : Under a n g := by
  intro hn b off e
  obtain ⟨b', off', x, e', hc, _⟩ := h.2 0 hn
  rw [e] at e'
  simp at e'
  have := block_lt_of_cell hc
  simp at this
  omega
end Go.Proofs.Ytggmcgcmpgofcaa
