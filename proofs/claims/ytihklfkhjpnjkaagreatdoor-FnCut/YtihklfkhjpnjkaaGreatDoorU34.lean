import Derived.Test.YtihklfkhjpnjkaaGreatDoorU31
set_option maxHeartbeats 8000000
set_option maxRecDepth 2000
open Go.ChangeShapes Go.WideShapes Go.ChangeAt Go.RowKit
namespace Go.Proofs.YtihklfkhjpnjkaaGreatDoor
end Go.Proofs.YtihklfkhjpnjkaaGreatDoor
