/- Marks laid into a list of slots and asked for: all that is written. Conditions: lists of at most 2^20. Written by mkmarkf.py. -/
import Derived.Test.YtpomffkpjldloaaGreatI29
import Derived.Test.YtpomffkpjldloaaGreatI31
import Derived.Lib.QuietBelow
import Derived.BigQuiet
namespace Go.Proofs.YtpomffkpjldloaaGreat
set_option maxRecDepth 2000
open Go.ChangeShapes Go.WideShapes Go.ChangeAt Go.RowKit Go.Sort

end Go.Proofs.YtpomffkpjldloaaGreat
