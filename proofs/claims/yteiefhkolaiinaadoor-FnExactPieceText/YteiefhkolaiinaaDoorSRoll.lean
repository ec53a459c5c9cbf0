/- A long turned by any whole number: what the library's function, the program's and its model answer. No condition. -/
import Derived.Test.YteiefhkolaiinaaDoorGs
import Derived.Test.YteiefhkolaiinaaDoorRows
import Derived.Test.YteiefhkolaiinaaDoorField
import Derived.Test.YteiefhkolaiinaaDoorFrame
import Derived.Laws.Shifts
namespace Go.Proofs.YteiefhkolaiinaaDoor
set_option maxRecDepth 2000
open Go.ChangeShapes Go.WideShapes Go.ChangeAt Go.RowKit
open Gs (U rolI)

theorem U_wf {a : Int} (h : (Lit.int .u64 a).wf = true) : ∃ x, a = U x := by
  simp [Lit.wf, IntKind.min, IntKind.max, IntKind.signed, IntKind.bits] at h
  exact Gs.U_of (by omega) (by omega)

theorem tmod64 (n : Int) : n.tmod 64 = n % 64 ∨ n.tmod 64 = n % 64 - 64 ∧ n % 64 ≠ 0 ∧ n < 0 := by
  rw [Int.tmod_eq_emod]
  split
  · omega
  · simp only [show (64 : Int).natAbs = 64 from rfl]
    omega
theorem shl1 (x : BitVec 64) : IntKind.u64.wrap (U x * 2) = U (x <<< 1) := Gs.U_shl x 1
theorem shr63 (x : BitVec 64) : U x / (9223372036854775808 : Int) = U (x >>> 63) := Gs.U_shr x 63

end Go.Proofs.YteiefhkolaiinaaDoor
