/- A net's start in the model. Conditions: lists of at most 2^20. -/
import Derived.Test.YtggmcgcmpgofcaaL36
import Derived.Test.YtggmcgcmpgofcaaL22
import Derived.Test.YtggmcgcmpgofcaaL18
import Derived.Test.YtggmcgcmpgofcaaL35
import Derived.RegionTactic
namespace Go.Proofs.Ytggmcgcmpgofcaa
set_option maxRecDepth 2000
open Go.ChangeShapes Go.WideShapes Go.ChangeAt Go.RowKit

/-- A node at its start. -/
def nd0 (f : Int) (i : Nat) : Nd := ⟨(i : Int), f, 0, fun _ => slZ⟩
end Go.Proofs.Ytggmcgcmpgofcaa
/- A net's start in the model, where it may start. Conditions: lists of at most 2^20. -/
namespace Go.Proofs.Ytggmcgcmpgofcaa
set_option maxRecDepth 2000
open Go.ChangeShapes Go.WideShapes Go.ChangeAt Go.RowKit

end Go.Proofs.Ytggmcgcmpgofcaa
/- A region that draws its order, by an invariant over all orders. Lemmas over any program; no condition. -/
namespace Go.Proofs.Ytggmcgcmpgofcaa
set_option maxRecDepth 2000
open Go.ChangeShapes Go.WideShapes Go.ChangeAt Go.RowKit

end Go.Proofs.Ytggmcgcmpgofcaa
