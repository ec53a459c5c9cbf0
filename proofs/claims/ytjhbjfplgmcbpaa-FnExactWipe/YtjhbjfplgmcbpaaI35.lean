/- A net's start in the model. Conditions: lists of at most 2^20. -/
import Derived.Test.YtjhbjfplgmcbpaaI32
import Derived.Test.YtjhbjfplgmcbpaaI19
import Derived.Test.YtjhbjfplgmcbpaaI17
import Derived.Test.YtjhbjfplgmcbpaaI30
import Derived.RegionTactic
namespace Go.Proofs.Ytjhbjfplgmcbpaa
set_option maxRecDepth 2000
open Go.ChangeShapes Go.WideShapes Go.ChangeAt Go.RowKit

/-- A node at its start. -/
def nd0 (f : Int) (i : Nat) : Nd := ⟨(i : Int), f, 0, fun _ => slZ⟩
end Go.Proofs.Ytjhbjfplgmcbpaa
/- A net's start in the model, where it may start. Conditions: lists of at most 2^20. -/
namespace Go.Proofs.Ytjhbjfplgmcbpaa
set_option maxRecDepth 2000
open Go.ChangeShapes Go.WideShapes Go.ChangeAt Go.RowKit

end Go.Proofs.Ytjhbjfplgmcbpaa
/- A region that draws its order, by an invariant over all orders. Lemmas over any program; no condition. -/
namespace Go.Proofs.Ytjhbjfplgmcbpaa
set_option maxRecDepth 2000
open Go.ChangeShapes Go.WideShapes Go.ChangeAt Go.RowKit

end Go.Proofs.Ytjhbjfplgmcbpaa
