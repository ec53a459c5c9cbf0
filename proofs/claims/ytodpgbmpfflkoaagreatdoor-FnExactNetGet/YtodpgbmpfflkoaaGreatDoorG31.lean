/- The root of a text's pieces, in the program. Condition: a text of at most 2^20 bytes. -/
import Derived.Test.YtodpgbmpfflkoaaGreatDoorG26
import Derived.Test.YtodpgbmpfflkoaaGreatDoorG28
namespace Go.Proofs.YtodpgbmpfflkoaaGreatDoor
set_option maxRecDepth 2000
open Go.ChangeShapes Go.WideShapes Go.ChangeAt Go.RowKit

end Go.Proofs.YtodpgbmpfflkoaaGreatDoor
