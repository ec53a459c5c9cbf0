/- The program's sum of a text with a key: what Sip answers. Condition: a text of at most 2^20 bytes. -/
import Derived.Test.YtjhbjfplgmcbpaaI6
namespace Go.Proofs.Ytjhbjfplgmcbpaa
set_option maxRecDepth 2000
open Go.ChangeShapes Go.WideShapes Go.ChangeAt Go.RowKit
open Gs (U rolI V4 mx inn key all4 fin)

end Go.Proofs.Ytjhbjfplgmcbpaa
/- The model's sum of a text with a key: what Sip answers there. Condition: a text of at most 2^20 bytes. -/
namespace Go.Proofs.Ytjhbjfplgmcbpaa
set_option maxRecDepth 2000
open Go.ChangeShapes Go.WideShapes Go.ChangeAt Go.RowKit
open Gs (U rolI V4 mx inn key all4 fin)

end Go.Proofs.Ytjhbjfplgmcbpaa
