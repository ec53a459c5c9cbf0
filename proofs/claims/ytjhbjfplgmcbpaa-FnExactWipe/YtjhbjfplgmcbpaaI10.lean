/- A long's eight bytes as a text, in the program and in its model: what each answers at every long. No condition. -/
import Derived.Test.YtjhbjfplgmcbpaaI6
namespace Go.Proofs.Ytjhbjfplgmcbpaa
set_option maxRecDepth 2000
open Go.ChangeShapes Go.WideShapes Go.ChangeAt Go.RowKit
open Gs (U)

def lby (x : BitVec 64) (i : Nat) : Nat := x.toNat / 2 ^ (8 * (7 - i)) % 256
def lx (x : BitVec 64) : List Int := (List.range 8).map fun i => ((lby x i : Nat) : Int)
end Go.Proofs.Ytjhbjfplgmcbpaa
