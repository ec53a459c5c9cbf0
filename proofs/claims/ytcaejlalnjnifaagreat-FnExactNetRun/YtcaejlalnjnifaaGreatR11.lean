import Derived.Test.YtcaejlalnjnifaaGreatR7
import Derived.Test.YtcaejlalnjnifaaGreatR9
set_option maxHeartbeats 8000000
set_option maxRecDepth 2000
open Go renaming Value->Aj
open Go.ChangeShapes Go.WideShapes Go.ChangeAt Go.RowKit
namespace Go.Proofs.YtcaejlalnjnifaaGreat
def lenV:Aj->Nat
 | .slice _ n _=>n
 | _=>0
end Go.Proofs.YtcaejlalnjnifaaGreat
