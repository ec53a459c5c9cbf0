/- Texts summed byte by byte, in the program and in its model: what each answers at every two texts. Condition: texts of at most 2^20 bytes. -/
import Derived.Test.YtggmcgcmpgofcaaJ6
import Derived.Deep.RegionHeld3
import Derived.Deep.AppendLies
namespace Go.Proofs.Ytggmcgcmpgofcaa
set_option maxRecDepth 2000
open Go.ChangeShapes Go.WideShapes Go.ChangeAt Go.RowKit

end Go.Proofs.Ytggmcgcmpgofcaa
/- The plain mathematics of texts that are scaled and summed, and of sums of products. No condition. -/
namespace Go.Proofs.Ytggmcgcmpgofcaa
set_option maxRecDepth 2000

def tat (s : ByteArray) (k : Nat) : Nat := (s.data.toList.getD k 0).toNat
end Go.Proofs.Ytggmcgcmpgofcaa
/- A long's eight bytes as a text, in the program and in its model: what each answers at every long. No condition. -/
namespace Go.Proofs.Ytggmcgcmpgofcaa
set_option maxRecDepth 2000
open Go.ChangeShapes Go.WideShapes Go.ChangeAt Go.RowKit
open Gs (U)

def lby (x : BitVec 64) (i : Nat) : Nat := x.toNat / 2 ^ (8 * (7 - i)) % 256
def lx (x : BitVec 64) : List Int := (List.range 8).map fun i => ((lby x i : Nat) : Int)
end Go.Proofs.Ytggmcgcmpgofcaa
/- The model's sum of a text with a key: what Sip answers there. Condition: a text of at most 2^20 bytes. -/
namespace Go.Proofs.Ytggmcgcmpgofcaa
set_option maxRecDepth 2000
open Go.ChangeShapes Go.WideShapes Go.ChangeAt Go.RowKit
open Gs (U rolI V4 mx inn key all4 fin)

end Go.Proofs.Ytggmcgcmpgofcaa
