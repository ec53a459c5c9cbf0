/- The field's functions called one behind the other: each answers as it does, and nothing that was there at the first turns. No condition. -/
import Derived.Test.YtgiegoamcfjfmaaGreatJ6
namespace Go.Proofs.YtgiegoamcfjfmaaGreat
set_option maxRecDepth 2000
open Go.ChangeShapes Go.WideShapes Go.ChangeAt Go.RowKit

set_option maxHeartbeats 400000 in
theorem big_any (a : Option Addr) (n cap : Nat) (w : World) : Calls Tryz.prog 23 #[.slice a n cap] w fun e w' => e = .returned (.bool (decide (1048576 < (n : Int)))) ∧ w' = w := by
  go_enter Tryz.func23, Tryz.ntmps23
  go_wp2
  go_ret
  exact ⟨rfl, rfl⟩
end Go.Proofs.YtgiegoamcfjfmaaGreat
