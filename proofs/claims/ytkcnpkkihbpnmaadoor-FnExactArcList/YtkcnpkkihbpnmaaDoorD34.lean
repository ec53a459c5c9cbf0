/- A net's start in the model. Conditions: lists of at most 2^20. -/
import Derived.Test.YtkcnpkkihbpnmaaDoorD33
import Derived.Test.YtkcnpkkihbpnmaaDoorD18
import Derived.Test.YtkcnpkkihbpnmaaDoorD17
import Derived.Test.YtkcnpkkihbpnmaaDoorD29
import Derived.RegionTactic
namespace Go.Proofs.YtkcnpkkihbpnmaaDoor
set_option maxRecDepth 2000
open Go.ChangeShapes Go.WideShapes Go.ChangeAt Go.RowKit

end Go.Proofs.YtkcnpkkihbpnmaaDoor
/- A net's start in the model, where it may start. Conditions: lists of at most 2^20. -/
namespace Go.Proofs.YtkcnpkkihbpnmaaDoor
set_option maxRecDepth 2000
open Go.ChangeShapes Go.WideShapes Go.ChangeAt Go.RowKit

end Go.Proofs.YtkcnpkkihbpnmaaDoor
/- A region that draws its order, by an invariant over all orders. Lemmas over any program; no condition. -/
namespace Go.Proofs.YtkcnpkkihbpnmaaDoor
set_option maxRecDepth 2000
open Go.ChangeShapes Go.WideShapes Go.ChangeAt Go.RowKit

end Go.Proofs.YtkcnpkkihbpnmaaDoor
