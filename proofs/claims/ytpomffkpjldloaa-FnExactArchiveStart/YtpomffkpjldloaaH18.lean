/- The root over leaves, in the model. Conditions: at most 2^20 texts. -/
import Derived.Test.YtpomffkpjldloaaH15
import Derived.Test.YtpomffkpjldloaaH14
import Derived.Test.YtpomffkpjldloaaH10
namespace Go.Proofs.Ytpomffkpjldloaa
set_option maxRecDepth 2000
open Go.ChangeShapes Go.WideShapes Go.ChangeAt Go.RowKit
open Gt (hf up rt)

end Go.Proofs.Ytpomffkpjldloaa
/- A leaf's proof, in the model; what the program answers in one contract. Conditions: at most 2^20 texts. -/
namespace Go.Proofs.Ytpomffkpjldloaa
set_option maxRecDepth 2000
open Go.ChangeShapes Go.WideShapes Go.ChangeAt Go.RowKit
open Gt (hf up nb pl)

end Go.Proofs.Ytpomffkpjldloaa
/- All bodies that go together, bound under one root, in the program. Conditions: at most 64 bodies of at most 2^20 bytes. -/
namespace Go.Proofs.Ytpomffkpjldloaa
set_option maxRecDepth 2000
open Go.ChangeShapes Go.WideShapes Go.ChangeAt Go.RowKit

end Go.Proofs.Ytpomffkpjldloaa
