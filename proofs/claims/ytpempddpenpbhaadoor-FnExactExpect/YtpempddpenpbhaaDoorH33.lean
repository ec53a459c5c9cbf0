/- How long each body is, in the program and in its model, at every two numbers. No condition. -/
import Derived.Test.YtpempddpenpbhaaDoorH31
import Derived.Test.YtpempddpenpbhaaDoorH30
namespace Go.Proofs.YtpempddpenpbhaaDoor
set_option maxRecDepth 2000
open Go.ChangeShapes Go.WideShapes Go.ChangeAt Go.RowKit

end Go.Proofs.YtpempddpenpbhaaDoor
