/- Hexadecimal digits: which a number has, which number a sign is, in the program and in its model. No condition. -/
import Derived.Test.YtpempddpenpbhaaDoorH10
import Derived.Test.YtpempddpenpbhaaDoorH11
import Derived.Laws.StandIn
namespace Go.Proofs.YtpempddpenpbhaaDoor
set_option maxRecDepth 2000
open Go.ChangeShapes Go.WideShapes Go.ChangeAt Go.RowKit

/-- The digits. -/
abbrev HXD : ByteArray := ⟨#[48, 49, 50, 51, 52, 53, 54, 55, 56, 57, 97, 98, 99, 100, 101, 102]⟩
def dg (k : Nat) : Nat := if k < 10 then 48 + k else 87 + k
theorem dg_lt {k : Nat} (h : k < 16) : dg k < 256 := by unfold dg; split <;> omega
theorem hxd_at : ∀ k : Nat, k < 16 → (HXD.data.toList.getD k 0).toNat = dg k := by decide +kernel
theorem hxd_get (k : Nat) (h : k < (⟨#[48, 49, 50, 51, 52, 53, 54, 55, 56, 57, 97, 98, 99, 100, 101, 102]⟩ : ByteArray).size) : (⟨#[48, 49, 50, 51, 52, 53, 54, 55, 56, 57, 97, 98, 99, 100, 101, 102]⟩ : ByteArray)[k].toNat = dg k :=
  (tat_in HXD k h).symm.trans (hxd_at k h)
end Go.Proofs.YtpempddpenpbhaaDoor
