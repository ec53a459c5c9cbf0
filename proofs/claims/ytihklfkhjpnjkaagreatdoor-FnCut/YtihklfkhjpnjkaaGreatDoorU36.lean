import Derived.Test.YtihklfkhjpnjkaaGreatDoorU32
import Derived.Test.YtihklfkhjpnjkaaGreatDoorU13
import Derived.Test.YtihklfkhjpnjkaaGreatDoorU35
import Derived.Deep.RegionHeld3
set_option maxHeartbeats 8000000
set_option maxRecDepth 2000
open Go.ChangeShapes Go.WideShapes Go.ChangeAt Go.RowKit
namespace Go.Proofs.YtihklfkhjpnjkaaGreatDoor
end Go.Proofs.YtihklfkhjpnjkaaGreatDoor
