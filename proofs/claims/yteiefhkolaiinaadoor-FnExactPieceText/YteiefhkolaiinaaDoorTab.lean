/- The two functions that keep a table: powerOfTwo answers the power of two at every number, log the logarithm at every byte number; each makes one new block and turns nothing that was there. -/
import Derived.Test.YteiefhkolaiinaaDoorChecked
import Derived.Test.YteiefhkolaiinaaDoorGf
import Derived.Test.YteiefhkolaiinaaDoorLaws
import Derived.Outline
import Derived.WalkSpells
import Derived.WalkLawsBesides
namespace Go.Proofs.YteiefhkolaiinaaDoor
set_option maxRecDepth 2000
open Go.ChangeShapes Go.WideShapes Go.ChangeAt Go.RowKit

def expZ : List Int := (List.range 255).map fun i => ((Gf.ex i : Nat) : Int)
def logZ : List Int := (List.range 256).map fun i => ((Gf.lg i : Nat) : Int)
def expV : Array Value := (expZ.map (Value.int .u8)).toArray
def logV : Array Value := (logZ.map (Value.int .u8)).toArray

theorem expV_at {i : Nat} (h : i < 255) : expV[i]? = some (.int .u8 ((Gf.ex i : Nat) : Int)) := by
  unfold expV expZ
  simp [h]
theorem logV_at {i : Nat} (h : i < 256) : logV[i]? = some (.int .u8 ((Gf.lg i : Nat) : Int)) := by
  unfold logV logZ
  simp [h]

end Go.Proofs.YteiefhkolaiinaaDoor
