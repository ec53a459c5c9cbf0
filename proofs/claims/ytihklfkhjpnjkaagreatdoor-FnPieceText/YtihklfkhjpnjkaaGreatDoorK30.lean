import Derived.Test.YtihklfkhjpnjkaaGreatDoorK28
import Derived.Test.YtihklfkhjpnjkaaGreatDoorK27
set_option maxHeartbeats 8000000
set_option maxRecDepth 2000
open Go.ChangeShapes Go.WideShapes Go.ChangeAt Go.RowKit
namespace Go.Proofs.YtihklfkhjpnjkaaGreatDoor
theorem OwnT.cap' {w : World} {B : Nat} {a : Option Addr} {n cap : Nat} {S : Nat → ByteArray} (h : OwnT w B a n cap S) : n ≤ cap ∧ cap ≤ maxLen := by
 rcases h.2 with ⟨h', h0⟩ | ⟨g, cap', cur, h', _, _, hn, hm, _⟩
 ·cases h'; exact ⟨Nat.le_refl _, Nat.zero_le _⟩
 ·cases h'; exact ⟨hn, hm⟩
end Go.Proofs.YtihklfkhjpnjkaaGreatDoor
