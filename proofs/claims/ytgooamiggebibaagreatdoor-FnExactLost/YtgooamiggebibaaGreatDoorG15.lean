import Derived.Test.YtgooamiggebibaaGreatDoorG12
import Derived.Test.YtgooamiggebibaaGreatDoorG13
set_option maxHeartbeats 8000000
set_option maxRecDepth 2000
open Go.ChangeShapes Go.WideShapes Go.ChangeAt Go.RowKit
namespace Go.Proofs.YtgooamiggebibaaGreatDoor
end Go.Proofs.YtgooamiggebibaaGreatDoor
