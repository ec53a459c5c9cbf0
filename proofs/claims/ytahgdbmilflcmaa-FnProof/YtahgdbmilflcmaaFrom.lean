/- The field's functions called one behind the other: each answers as it does, and nothing that was there at the first turns. No condition. -/
import Derived.Test.YtahgdbmilflcmaaSField
import Derived.Test.YtahgdbmilflcmaaDraws
namespace Go.Proofs.Ytahgdbmilflcmaa
set_option maxRecDepth 2000
open Go.ChangeShapes Go.WideShapes Go.ChangeAt Go.RowKit

theorem from_w {P : Program} {fn : FuncId} {args : Array Value} {v : Ending} (w0 w : World) (h0 : Below w0.heap.size w0 w)
    (h : Calls P fn args w fun e w' => e = v ∧ Below w.heap.size w w') : Calls P fn args w fun e w' => e = v ∧ Below w0.heap.size w0 w' :=
  h.mono fun _ _ ⟨he, hb⟩ => ⟨he, h0.trans (hb.mono h0.size)⟩

set_option maxHeartbeats 400000 in
theorem big_any (a : Option Addr) (n cap : Nat) (w : World) : Calls Try.prog 8 #[.slice a n cap] w fun e w' => e = .returned (.bool (decide (1048576 < (n : Int)))) ∧ w' = w := by
  go_enter Try.func8, Try.ntmps8
  go_wp2
  go_ret
  exact ⟨rfl, rfl⟩
end Go.Proofs.Ytahgdbmilflcmaa
