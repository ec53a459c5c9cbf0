/- What the model's functions with loops answer at every number: products, powers, inverses, quotients, powers of two and logarithms; none turns anything that was there. No condition. -/
import Derived.Test.YteiefhkolaiinaaDoorField
namespace Go.Proofs.YteiefhkolaiinaaDoor
set_option maxRecDepth 2000
open Go.ChangeShapes Go.WideShapes Go.ChangeAt Go.RowKit

theorem pea_step (k A B X : Nat) : Gf.pea (k + 1) A B X = Gf.pea k (Gf.dbl A) (B / 2) (if B % 2 = 1 then X ^^^ A else X) := rfl

theorem expI_nat {k : Nat} (h : k < 255) : expI (k : Int) = ((Gf.ex k : Nat) : Int) := by
  unfold expI
  congr 2
  omega

end Go.Proofs.YteiefhkolaiinaaDoor
