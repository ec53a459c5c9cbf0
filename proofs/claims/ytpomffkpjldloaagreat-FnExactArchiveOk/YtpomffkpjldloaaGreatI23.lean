/- A leaf's proof, in the model; what the program answers in one contract. Conditions: at most 2^20 texts. -/
import Derived.Test.YtpomffkpjldloaaGreatI21
import Derived.Test.YtpomffkpjldloaaGreatI20
import Derived.Test.YtpomffkpjldloaaGreatI17
import Derived.Test.YtpomffkpjldloaaGreatI18
namespace Go.Proofs.YtpomffkpjldloaaGreat
set_option maxRecDepth 2000
open Go.ChangeShapes Go.WideShapes Go.ChangeAt Go.RowKit
open Gt (hf up nb pl)

end Go.Proofs.YtpomffkpjldloaaGreat
/- All bodies that go together, bound under one root, in the program. Conditions: at most 64 bodies of at most 2^20 bytes. -/
namespace Go.Proofs.YtpomffkpjldloaaGreat
set_option maxRecDepth 2000
open Go.ChangeShapes Go.WideShapes Go.ChangeAt Go.RowKit

end Go.Proofs.YtpomffkpjldloaaGreat
