/- A law of the walk over any program: an array literal built, a new variable made for it and filled (three operations) is one new block that holds the literal's cells. No condition but that the three are these operations. -/
import Derived.WalkKit
import Derived.ProofKit
import Derived.Laws.Tables
import Derived.Laws.Rows
import Derived.Great.BuildSlice
namespace Go.Proofs.YtkcnpkkihbpnmaaDoor
set_option maxRecDepth 2000

end Go.Proofs.YtkcnpkkihbpnmaaDoor
