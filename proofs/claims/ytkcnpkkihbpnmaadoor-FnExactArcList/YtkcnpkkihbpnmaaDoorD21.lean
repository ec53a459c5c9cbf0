/- Whose a piece is, in the model. Conditions: F from 1 to 3, proofs of at most 2^20. -/
import Derived.Test.YtkcnpkkihbpnmaaDoorD18
namespace Go.Proofs.YtkcnpkkihbpnmaaDoor
set_option maxRecDepth 2000
open Go.ChangeShapes Go.WideShapes Go.ChangeAt Go.RowKit

def MineP (root : ByteArray) (id f : Int) (r : ByteArray) (k n i : Int) : Prop := r = root ∧ k = f + 1 ∧ n = 3 * f + 1 ∧ i = id
instance (root : ByteArray) (id f : Int) (r : ByteArray) (k n i : Int) : Decidable (MineP root id f r k n i) := by unfold MineP; infer_instance
end Go.Proofs.YtkcnpkkihbpnmaaDoor
/- Whose a piece is, in the program. Conditions: F from 1 to 3, proofs of at most 2^20. -/
namespace Go.Proofs.YtkcnpkkihbpnmaaDoor
set_option maxRecDepth 2000
open Go.ChangeShapes Go.WideShapes Go.ChangeAt Go.RowKit

end Go.Proofs.YtkcnpkkihbpnmaaDoor
/- How far a slot is brought, in the program. Condition: F from 1 to 3. -/
namespace Go.Proofs.YtkcnpkkihbpnmaaDoor
set_option maxRecDepth 2000
open Go.ChangeShapes Go.WideShapes Go.ChangeAt Go.RowKit

end Go.Proofs.YtkcnpkkihbpnmaaDoor
/- Whether a slot is a node's, in the program. Conditions: F from 1 to 3, lists of at most 2^20. -/
namespace Go.Proofs.YtkcnpkkihbpnmaaDoor
set_option maxRecDepth 2000
open Go.ChangeShapes Go.WideShapes Go.ChangeAt Go.RowKit

end Go.Proofs.YtkcnpkkihbpnmaaDoor
/- Whether a node is right, in the program. Conditions: lists of at most 2^20, texts that can be. -/
namespace Go.Proofs.YtkcnpkkihbpnmaaDoor
set_option maxRecDepth 2000
open Go.ChangeShapes Go.WideShapes Go.ChangeAt Go.RowKit

end Go.Proofs.YtkcnpkkihbpnmaaDoor
