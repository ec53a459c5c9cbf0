/- The root over leaves, in the model. Conditions: at most 2^20 texts. -/
import Derived.Test.YtgpghfnhgmkhgaaGreatJ19
import Derived.Test.YtgpghfnhgmkhgaaGreatJ21
namespace Go.Proofs.YtgpghfnhgmkhgaaGreat
set_option maxRecDepth 2000
open Go.ChangeShapes Go.WideShapes Go.ChangeAt Go.RowKit
open Gt (hf up rt)

end Go.Proofs.YtgpghfnhgmkhgaaGreat
