/- The row above a row, in the model. Conditions: at most 64 in the row, each of sixteen bytes. -/
import Derived.Test.YtpomffkpjldloaaH9
import Derived.Test.YtpomffkpjldloaaH10
namespace Go.Proofs.Ytpomffkpjldloaa
set_option maxRecDepth 2000
open Go.ChangeShapes Go.WideShapes Go.ChangeAt Go.RowKit
open Gt (hf up jn)

end Go.Proofs.Ytpomffkpjldloaa
