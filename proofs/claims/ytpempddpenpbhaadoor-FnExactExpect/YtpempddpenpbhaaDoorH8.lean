/- The drawing of inputs: a cursor over bytes gives numbers within their bounds, writes into itself alone, and leaves all else as it was. Condition: at most 2^20 bytes. -/
import Derived.Test.YtpempddpenpbhaaDoorH6
import Derived.Deep.QuietTactic
import Derived.BigQuiet
import Derived.Deep.RegionHeld3
namespace Go.Proofs.YtpempddpenpbhaaDoor
set_option maxRecDepth 2000
open Go.ChangeShapes Go.WideShapes Go.ChangeAt Go.RowKit

/-- The 'n' cells behind the address hold bytes, in another block than 'g'. -/
def BytesAt (w : World) (a : Option Addr) (n g : Nat) : Prop :=
  ∀ j, j < n → ∃ b off x, a = some ⟨b, off, none⟩ ∧ b ≠ g ∧ w.cell? ⟨b, off + j, none⟩ = some (.int .u8 x) ∧ 0 ≤ x ∧ x ≤ 255
theorem BytesAt.grown {w w' : World} {a : Option Addr} {n g : Nat} (h : BytesAt w a n g) (hg : w.grownBy w' (some g)) : BytesAt w' a n g := by
  intro j hj
  obtain ⟨b, off, x, e, hb, hc, hx⟩ := h j hj
  exact ⟨b, off, x, e, hb, hg.cell hc (by simpa using hb), hx⟩
end Go.Proofs.YtpempddpenpbhaaDoor
