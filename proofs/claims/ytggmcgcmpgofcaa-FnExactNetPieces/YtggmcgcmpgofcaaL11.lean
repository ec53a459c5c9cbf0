/- The field's functions called one behind the other: each answers as it does, and nothing that was there at the first turns. No condition. -/
import Derived.Test.YtggmcgcmpgofcaaL6
namespace Go.Proofs.Ytggmcgcmpgofcaa
set_option maxRecDepth 2000
open Go.ChangeShapes Go.WideShapes Go.ChangeAt Go.RowKit

end Go.Proofs.Ytggmcgcmpgofcaa
