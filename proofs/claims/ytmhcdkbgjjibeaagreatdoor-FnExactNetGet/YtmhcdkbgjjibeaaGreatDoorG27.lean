import Derived.Test.YtmhcdkbgjjibeaaGreatDoorG23
import Derived.Test.YtmhcdkbgjjibeaaGreatDoorG21
import Derived.Lib.QuietBelow
import Derived.BigQuiet
set_option maxHeartbeats 8000000
set_option maxRecDepth 2000
namespace Go.Proofs.YtmhcdkbgjjibeaaGreatDoor
open Go.ChangeShapes Go.WideShapes Go.ChangeAt Go.RowKit Go.Sort
end Go.Proofs.YtmhcdkbgjjibeaaGreatDoor
