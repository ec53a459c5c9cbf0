import Derived.Test.YtodnodekheaacaaGreatDoorI7
import Derived.Test.YtodnodekheaacaaGreatDoorI10
import Derived.Test.YtodnodekheaacaaGreatDoorI6
set_option maxHeartbeats 8000000
set_option maxRecDepth 2000
open Go.ChangeShapes Go.WideShapes Go.ChangeAt Go.RowKit
namespace Go.Proofs.YtodnodekheaacaaGreatDoor
theorem owns_cap {w : World} {B E g n cap : Nat} {xs : List Value} (h : w.ownsRow B E 1 (.slice (some ⟨g, 0, none⟩) n cap) n xs) : n ≤ cap := by
 rcases h.2 with h' | ⟨g', cap', cur, e, _, _, hn, _⟩
 ·cases h'.1
 ·cases e; exact hn
end Go.Proofs.YtodnodekheaacaaGreatDoor
