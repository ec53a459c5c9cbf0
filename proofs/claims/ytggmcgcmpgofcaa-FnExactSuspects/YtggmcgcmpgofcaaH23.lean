/- A leaf's proof, in the program: where there is one. -/
import Derived.Test.YtggmcgcmpgofcaaH19
import Derived.Test.YtggmcgcmpgofcaaH15
namespace Go.Proofs.Ytggmcgcmpgofcaa
set_option maxRecDepth 2000
open Go.ChangeShapes Go.WideShapes Go.ChangeAt Go.RowKit Go.Shelf
open Gt (hf up nb pl)

theorem Kp.mono {X Y : Nat → Prop} {A B : World} (h : Kp X A B) (hxy : ∀ j, X j → Y j) : Kp Y A B := ⟨h.os, h.tape, h.output, h.size, fun j hj hn => h.block j hj (fun hx => hn (hxy j hx))⟩
end Go.Proofs.Ytggmcgcmpgofcaa
/- A leaf's proof, in the model; what the program answers in one contract. Conditions: at most 2^20 texts. -/
namespace Go.Proofs.Ytggmcgcmpgofcaa
set_option maxRecDepth 2000
open Go.ChangeShapes Go.WideShapes Go.ChangeAt Go.RowKit
open Gt (hf up nb pl)

end Go.Proofs.Ytggmcgcmpgofcaa
/- All bodies that go together, bound under one root, in the program. Conditions: at most 64 bodies of at most 2^20 bytes. -/
namespace Go.Proofs.Ytggmcgcmpgofcaa
set_option maxRecDepth 2000
open Go.ChangeShapes Go.WideShapes Go.ChangeAt Go.RowKit

end Go.Proofs.Ytggmcgcmpgofcaa
