/- A place in a row of so many, in the program: whether it is one, its neighbour, the place above it. Conditions: for the neighbour and the place above it at most 2^20 in the row. -/
import Derived.Test.YtbfkbbiddbnchaaH9
import Derived.Test.YtbfkbbiddbnchaaH8
import Derived.Test.YtbfkbbiddbnchaaH6
import Derived.Deep.RegionHeld3
import Derived.Deep.AppendLies
import Derived.Test.YtbfkbbiddbnchaaH5
import Derived.Sort.LoopGhostIn
namespace Go.Proofs.Ytbfkbbiddbnchaa
set_option maxRecDepth 2000
open Go.ChangeShapes Go.WideShapes Go.ChangeAt Go.RowKit
open Gt (nb hf)

end Go.Proofs.Ytbfkbbiddbnchaa
/- The places on the way up from a place, in the program, that are joined: the contract of the iterator that tells them. Condition: a place of a row of at most 64. -/
namespace Go.Proofs.Ytbfkbbiddbnchaa
set_option maxRecDepth 2000
open Go.ChangeShapes Go.WideShapes Go.ChangeAt Go.RowKit Go.Shelf
open Gt (nb hf nm)

end Go.Proofs.Ytbfkbbiddbnchaa
/- How many texts a proof has, in the program: at every two numbers. No condition. -/
namespace Go.Proofs.Ytbfkbbiddbnchaa
set_option maxRecDepth 2000
open Go.ChangeShapes Go.WideShapes Go.ChangeAt Go.RowKit Go.Shelf
open Gt (nb hf nm pl)

theorem Row.grown {w w' : World} {g j : Nat} {t : TypeId} {cs : Array Value} (h : Row w g t cs) (hg : w.grownBy w' (some j)) (hj : g ≠ j) : Row w' g t cs := (hg.block g h.lt (by simpa using hj)).trans h
end Go.Proofs.Ytbfkbbiddbnchaa
/- How many texts a proof has, in the model: at every two numbers. No condition. -/
namespace Go.Proofs.Ytbfkbbiddbnchaa
set_option maxRecDepth 2000
open Go.ChangeShapes Go.WideShapes Go.ChangeAt Go.RowKit
open Gt (nb hf pl)

end Go.Proofs.Ytbfkbbiddbnchaa
