/- The draws of chapter two's laws: polynomials, pairs of them, places and values; and the laws' test of two lists. Condition: at most 2^20 bytes of code. -/
import Derived.Test.YthnjhjgffkilcaaGreatDoorH14
import Derived.Test.YthnjhjgffkilcaaGreatDoorH12
import Derived.Test.YthnjhjgffkilcaaGreatDoorH9
namespace Go.Proofs.YthnjhjgffkilcaaGreatDoor
set_option maxRecDepth 2000
open Go.ChangeShapes Go.WideShapes Go.ChangeAt Go.RowKit

end Go.Proofs.YthnjhjgffkilcaaGreatDoor
