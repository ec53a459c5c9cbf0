/- The program's hash: what its parts answer and make of it. Condition: a length of at most 2^20. -/
import Derived.Test.YtggmcgcmpgofcaaH7
import Derived.Deep.RegionHeld3
import Derived.Deep.AppendLies
namespace Go.Proofs.Ytggmcgcmpgofcaa
set_option maxRecDepth 2000
open Go.ChangeShapes Go.WideShapes Go.ChangeAt Go.RowKit
open Gs (U rolI V4 mx inn key all4 fin)

end Go.Proofs.Ytggmcgcmpgofcaa
/- Texts summed byte by byte, in the program and in its model: what each answers at every two texts. Condition: texts of at most 2^20 bytes. -/
namespace Go.Proofs.Ytggmcgcmpgofcaa
set_option maxRecDepth 2000
open Go.ChangeShapes Go.WideShapes Go.ChangeAt Go.RowKit

end Go.Proofs.Ytggmcgcmpgofcaa
