/- How long each body is, in the program and in its model, at every two numbers. No condition. -/
import Derived.Test.YtpomffkpjldloaaH21
import Derived.Test.YtpomffkpjldloaaH20
namespace Go.Proofs.Ytpomffkpjldloaa
set_option maxRecDepth 2000
open Go.ChangeShapes Go.WideShapes Go.ChangeAt Go.RowKit

end Go.Proofs.Ytpomffkpjldloaa
