/- append onto a row of ours, as laws of the walk over any program. No condition but what each says. -/
import Derived.Test.YtgpghfnhgmkhgaaGreatJ6
import Derived.Deep.RegionHeld3
import Derived.Deep.AppendLies
namespace Go.Proofs.YtgpghfnhgmkhgaaGreat
set_option maxRecDepth 2000
open Go.ChangeShapes Go.WideShapes Go.ChangeAt Go.RowKit

end Go.Proofs.YtgpghfnhgmkhgaaGreat
