/- A slot, copied, in the program. Conditions: texts and lists of at most 2^20. Written by a program. -/
import Derived.Test.YtkcnpkkihbpnmaaDoorD24
import Derived.Test.YtkcnpkkihbpnmaaDoorD26
import Derived.Deep.CutRange
import Derived.Test.YtkcnpkkihbpnmaaDoorD21
import Derived.Test.YtkcnpkkihbpnmaaDoorD25
namespace Go.Proofs.YtkcnpkkihbpnmaaDoor
set_option maxRecDepth 2000
open Go.ChangeShapes Go.WideShapes Go.ChangeAt Go.RowKit

theorem Ow.far {w : World} {B : Nat} {d : Dt} {v : Value} {F : Nat → Prop} (h : Ow w B d v F) {g : Nat} (o : Nat) (x : Value) (hn : ¬ F g) : Ow (w.setCell ⟨g, o, none⟩ x) B d v F :=
  h.turned (Trn.set w o x (F := fun y => y = g) rfl) (fun _ hy e => hn (e ▸ hy))
/-- What can be cloned. -/
structure SlK (s : Sl) : Prop where
  r : s.r.size ≤ 1048576
  pr : s.p.r.size ≤ 1048576
  pb : s.p.b.size ≤ 1048576
  m : s.p.m ≤ 1048576
  tx : ∀ i, i < s.p.m → (s.p.S i).size ≤ 1048576
  ne : s.ze.length ≤ 1048576
  nr : s.zr.length ≤ 1048576
end Go.Proofs.YtkcnpkkihbpnmaaDoor
/- A piece, copied, in the model. Condition: at most 2^20 texts. Written by a program. -/
namespace Go.Proofs.YtkcnpkkihbpnmaaDoor
set_option maxRecDepth 2000
open Go.ChangeShapes Go.WideShapes Go.ChangeAt Go.RowKit

end Go.Proofs.YtkcnpkkihbpnmaaDoor
/- A slot, copied, in the model. Conditions: lists of at most 2^20. Written by a program. -/
namespace Go.Proofs.YtkcnpkkihbpnmaaDoor
set_option maxRecDepth 2000
open Go.ChangeShapes Go.WideShapes Go.ChangeAt Go.RowKit

end Go.Proofs.YtkcnpkkihbpnmaaDoor
/- The slot of a root, in the program and in the model. Conditions: lists and texts of at most 2^20. Written by a program. -/
namespace Go.Proofs.YtkcnpkkihbpnmaaDoor
set_option maxRecDepth 2000
open Go.ChangeShapes Go.WideShapes Go.ChangeAt Go.RowKit

end Go.Proofs.YtkcnpkkihbpnmaaDoor
/- One slot that the exact laws mark and ask for its marks. Conditions: lists of at most 2^20. -/
namespace Go.Proofs.YtkcnpkkihbpnmaaDoor
set_option maxRecDepth 2000
open Go.ChangeShapes Go.WideShapes Go.ChangeAt Go.RowKit

end Go.Proofs.YtkcnpkkihbpnmaaDoor
