/- Lists of numbers, copied: slices.Clone, and the model's way. Condition: at most 2^20 numbers. -/
import Derived.Test.YtkcnpkkihbpnmaaDoorD23
import Derived.Test.YtkcnpkkihbpnmaaDoorD8
import Derived.Test.YtkcnpkkihbpnmaaDoorD18
import Derived.Test.YtkcnpkkihbpnmaaDoorD14
import Derived.Deep.CutRange
namespace Go.Proofs.YtkcnpkkihbpnmaaDoor
set_option maxRecDepth 2000
open Go.ChangeShapes Go.WideShapes Go.ChangeAt Go.RowKit

end Go.Proofs.YtkcnpkkihbpnmaaDoor
/- A piece, copied, in the program and in the model. Conditions: texts and lists of at most 2^20. Written by a program. -/
namespace Go.Proofs.YtkcnpkkihbpnmaaDoor
set_option maxRecDepth 2000
open Go.ChangeShapes Go.WideShapes Go.ChangeAt Go.RowKit

end Go.Proofs.YtkcnpkkihbpnmaaDoor
