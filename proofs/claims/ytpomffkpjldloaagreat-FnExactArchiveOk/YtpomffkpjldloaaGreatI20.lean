/- The root over leaves, in the model. Conditions: at most 2^20 texts. -/
import Derived.Test.YtpomffkpjldloaaGreatI15
import Derived.Test.YtpomffkpjldloaaGreatI18
namespace Go.Proofs.YtpomffkpjldloaaGreat
set_option maxRecDepth 2000
open Go.ChangeShapes Go.WideShapes Go.ChangeAt Go.RowKit
open Gt (hf up rt)

end Go.Proofs.YtpomffkpjldloaaGreat
