import Derived.Test.YtcaejlalnjnifaaGreatP10
import Derived.Deep.RegionLaw
set_option maxHeartbeats 8000000
set_option maxRecDepth 2000
open Go.ChangeShapes Go.WideShapes Go.ChangeAt Go.RowKit
namespace Go.Proofs.YtcaejlalnjnifaaGreat
end Go.Proofs.YtcaejlalnjnifaaGreat
