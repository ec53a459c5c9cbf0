/- Marks over lists of numbers and texts, with wide bounds. Conditions: lists of at most 2^20. -/
import Derived.Test.YtgiegoamcfjfmaaGreatJ11
import Derived.Test.YtgiegoamcfjfmaaGreatJ31
import Derived.Test.YtgiegoamcfjfmaaGreatJ12
namespace Go.Proofs.YtgiegoamcfjfmaaGreat
set_option maxRecDepth 2000
open Go.ChangeShapes Go.WideShapes Go.ChangeAt Go.RowKit

end Go.Proofs.YtgiegoamcfjfmaaGreat
