/- The draws of chapter two's laws: polynomials, pairs of them, places and values; and the laws' test of two lists. Condition: at most 2^20 bytes of code. -/
import Derived.Test.YtodpgbmpfflkoaaGreatDoorG8
import Derived.Test.YtodpgbmpfflkoaaGreatDoorG7
import Derived.Test.YtodpgbmpfflkoaaGreatDoorG12
namespace Go.Proofs.YtodpgbmpfflkoaaGreatDoor
set_option maxRecDepth 2000
open Go.ChangeShapes Go.WideShapes Go.ChangeAt Go.RowKit

theorem owns_cap {w : World} {B E g n cap : Nat} {xs : List Value} (h : w.ownsRow B E 1 (.slice (some ⟨g, 0, none⟩) n cap) n xs) : n ≤ cap := by
  rcases h.2 with h' | ⟨g', cap', cur, e, _, _, hn, _⟩
  · cases h'.1
  · cases e; exact hn

end Go.Proofs.YtodpgbmpfflkoaaGreatDoor
