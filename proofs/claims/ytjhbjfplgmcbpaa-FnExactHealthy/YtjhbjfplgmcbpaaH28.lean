/- Marks over lists of numbers and texts, with wide bounds. Conditions: lists of at most 2^20. -/
import Derived.Test.YtjhbjfplgmcbpaaH16
import Derived.Test.YtjhbjfplgmcbpaaH26
import Derived.Test.YtjhbjfplgmcbpaaH18
import Derived.Test.YtjhbjfplgmcbpaaH22
namespace Go.Proofs.Ytjhbjfplgmcbpaa
set_option maxRecDepth 2000
open Go.ChangeShapes Go.WideShapes Go.ChangeAt Go.RowKit

end Go.Proofs.Ytjhbjfplgmcbpaa
/- Marks laid into lists of sayings, and asked for, with wide bounds. Written by mkmarkn.py. -/
namespace Go.Proofs.Ytjhbjfplgmcbpaa
set_option maxRecDepth 2000
open Go.ChangeShapes Go.WideShapes Go.ChangeAt Go.RowKit

end Go.Proofs.Ytjhbjfplgmcbpaa
