/- Hexadecimal digits: which a number has, which number a sign is, in the program and in its model. No condition. -/
import Derived.Test.YteiefhkolaiinaaDoorSMix
import Derived.Test.YteiefhkolaiinaaDoorTextM
import Derived.Laws.StandIn
namespace Go.Proofs.YteiefhkolaiinaaDoor
set_option maxRecDepth 2000
open Go.ChangeShapes Go.WideShapes Go.ChangeAt Go.RowKit

/-- The digits. -/
abbrev HXD : ByteArray := ⟨#[48, 49, 50, 51, 52, 53, 54, 55, 56, 57, 97, 98, 99, 100, 101, 102]⟩
def dg (k : Nat) : Nat := if k < 10 then 48 + k else 87 + k
def ix (c : Nat) : Int := if 48 ≤ c ∧ c ≤ 57 then (c : Int) - 48 else if 97 ≤ c ∧ c ≤ 102 then (c : Int) - 87 else -1
theorem dg_lt {k : Nat} (h : k < 16) : dg k < 256 := by unfold dg; split <;> omega
theorem ix_dg {k : Nat} (h : k < 16) : ix (dg k) = (k : Int) := by unfold ix dg; split <;> split <;> omega
theorem ix_no {c : Nat} (h : ∀ j, j < 16 → dg j ≠ c) : ix c = -1 := by
  unfold ix
  split
  · exact absurd (by unfold dg; split <;> omega) (h (c - 48) (by omega))
  · split
    · exact absurd (by unfold dg; split <;> omega) (h (c - 87) (by omega))
    · rfl
theorem ix_lt (c : Nat) : ix c < 16 := by unfold ix; split <;> (try split) <;> omega
theorem ix_ge (c : Nat) : -1 ≤ ix c := by unfold ix; split <;> (try split) <;> omega
theorem dg_ix {c : Nat} (h : 0 ≤ ix c) : dg (ix c).toNat = c := by
  unfold ix at *
  split at h
  · rename_i h1
    rw [if_pos h1]
    unfold dg
    split <;> omega
  · split at h
    · rename_i h1 h2
      rw [if_neg h1, if_pos h2]
      unfold dg
      split <;> omega
    · omega
theorem hxd_at : ∀ k : Nat, k < 16 → (HXD.data.toList.getD k 0).toNat = dg k := by decide +kernel
theorem hxd_get (k : Nat) (h : k < (⟨#[48, 49, 50, 51, 52, 53, 54, 55, 56, 57, 97, 98, 99, 100, 101, 102]⟩ : ByteArray).size) : (⟨#[48, 49, 50, 51, 52, 53, 54, 55, 56, 57, 97, 98, 99, 100, 101, 102]⟩ : ByteArray)[k].toNat = dg k :=
  (tat_in HXD k h).symm.trans (hxd_at k h)
theorem first_ix : ∀ c : Nat, c < 256 → firstIdx HXD c.toUInt8 = ix c := by decide +kernel

end Go.Proofs.YteiefhkolaiinaaDoor
