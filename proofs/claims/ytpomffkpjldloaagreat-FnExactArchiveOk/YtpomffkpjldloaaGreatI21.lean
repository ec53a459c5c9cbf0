/- A leaf's proof, in the program: where there is one. -/
import Derived.Test.YtpomffkpjldloaaGreatI18
namespace Go.Proofs.YtpomffkpjldloaaGreat
set_option maxRecDepth 2000
open Go.ChangeShapes Go.WideShapes Go.ChangeAt Go.RowKit Go.Shelf
open Gt (hf up nb pl)

theorem Kp.mono {X Y : Nat → Prop} {A B : World} (h : Kp X A B) (hxy : ∀ j, X j → Y j) : Kp Y A B := ⟨h.os, h.tape, h.output, h.size, fun j hj hn => h.block j hj (fun hx => hn (hxy j hx))⟩
end Go.Proofs.YtpomffkpjldloaaGreat
