/- The row above a row, in the model. Conditions: at most 64 in the row, each of sixteen bytes. -/
import Derived.Test.YtgpghfnhgmkhgaaGreatJ10
import Derived.Test.YtgpghfnhgmkhgaaGreatJ11
import Derived.Test.YtgpghfnhgmkhgaaGreatJ17
namespace Go.Proofs.YtgpghfnhgmkhgaaGreat
set_option maxRecDepth 2000
open Go.ChangeShapes Go.WideShapes Go.ChangeAt Go.RowKit
open Gt (hf up jn)

end Go.Proofs.YtgpghfnhgmkhgaaGreat
