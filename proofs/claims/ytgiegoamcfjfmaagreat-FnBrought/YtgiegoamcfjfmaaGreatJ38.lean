/- Marks laid into a list of slots: the call ends with a number, and turns blocks of the list's alone. Conditions: lists of at most 2^20. Written by mkmarks.py. -/
import Derived.Test.YtgiegoamcfjfmaaGreatJ36
import Derived.Test.YtgiegoamcfjfmaaGreatJ37
namespace Go.Proofs.YtgiegoamcfjfmaaGreat
set_option maxRecDepth 2000
open Go.ChangeShapes Go.WideShapes Go.ChangeAt Go.RowKit

end Go.Proofs.YtgiegoamcfjfmaaGreat
