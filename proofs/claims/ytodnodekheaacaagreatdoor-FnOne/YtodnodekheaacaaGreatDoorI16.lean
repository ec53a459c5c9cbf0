import Derived.Test.YtodnodekheaacaaGreatDoorI14
import Derived.Test.YtodnodekheaacaaGreatDoorI13
set_option maxHeartbeats 8000000
set_option maxRecDepth 2000
open Go.ChangeShapes Go.WideShapes Go.ChangeAt Go.RowKit
namespace Go.Proofs.YtodnodekheaacaaGreatDoor
def blOk (s k : Int) : Bool := decide (0 ≤ s ∧ s ≤ 2000) && side k
def blI (s k : Int) : Int := if blOk s k = true then ((blen s.toNat k.toNat : Nat) : Int) else -1
theorem blI_yes {s k : Nat} (hs : s ≤ 2000) (hk : 1 ≤ k) (hk2 : k ≤ 16) : blI (s : Int) (k : Int) = ((blen s k : Nat) : Int) := by
 unfold blI
 rw [if_pos (by unfold blOk side; simp; omega)]
 simp
theorem blI_no {s k : Int} (h : ¬ (0 ≤ s ∧ s ≤ 2000 ∧ 1 ≤ k ∧ k ≤ 16)) : blI s k = -1 := by
 unfold blI
 rw [if_neg]
 unfold blOk side
 simp
 omega
theorem quo_blen {s k : Nat} (_hk : 1 ≤ k) : Int.tdiv ((s : Int) + 2 + (k : Int) - 1) (k : Int) = ((blen s k : Nat) : Int) := by
 unfold blen
 rw [show (s : Int) + 2 + (k : Int) - 1 = ((s + 2 + k - 1 : Nat) : Int) by omega, ← Int.ofNat_tdiv]
theorem bodyLen_any (s k : Int) (w : World) : Calls Tryz.prog 78 #[.int .i64 s, .int .i64 k] w fun e w' => e = .returned (.int .i64 (blI s k)) ∧ w' = w := by
 by_cases h : 0 ≤ s ∧ s ≤ 2000 ∧ 1 ≤ k ∧ k ≤ 16
 ·obtain ⟨h1, h2, h3, h4⟩ := h
  obtain ⟨S, rfl⟩ := Int.eq_ofNat_of_zero_le h1
  obtain ⟨K, rfl⟩ := Int.eq_ofNat_of_zero_le (show 0 ≤ k by omega)
  have hsd : side (K : Int) = true := by rw [side_nat]; simp; omega
  have HB : Hid (blI (S : Int) (K : Int) = ((blen S K : Nat) : Int)) := blI_yes (by omega) (by omega) (by omega)
  have hq := quo_blen (s := S) (k := K) (by omega)
  have h1' : ¬ (S : Int) < 0 := by omega
  have h2' : ¬ (S : Int) > 2000 := by omega
  have hw1 : IntKind.i64.wrap (2 + (S : Int)) = (S : Int) + 2 := by rw [IntKind.wrap_i64]; omega
  have hw2 : IntKind.i64.wrap ((S : Int) + 2 + (K : Int)) = (S : Int) + 2 + (K : Int) := by rw [IntKind.wrap_i64]; omega
  have hw3 : IntKind.i64.wrap ((S : Int) + 2 + (K : Int) - 1) = (S : Int) + 2 + (K : Int) - 1 := by rw [IntKind.wrap_i64]; omega
  have hbl := blen_le (s := S) (k := K) (by omega)
  have hw4 : IntKind.i64.wrap ((blen S K : Nat) : Int) = ((blen S K : Nat) : Int) := by rw [IntKind.wrap_i64]; omega
  have hk0 : ((K : Int) == 0) = false := by simp; omega
  have hk0' : ¬ ((K : Int) = 0) := by omega
  generalize blen S K = b at hq hw4 HB
  go_enter Tryz.func78, Tryz.ntmps78
  go_wp2_with (go_at_call 64; refine (isSide_any _ _).mono ?_; rintro e w' ⟨rfl, hw⟩; obtain rfl := hw.symm)
  go_ret
  exact ⟨ret_int (by rw [HB.out] <;> simp [*]), rfl⟩
 ·have HB : Hid (blI s k = -1) := blI_no h
  by_cases h1 : s < 0
  ·go_enter Tryz.func78, Tryz.ntmps78
   go_wp2
   go_ret
   exact ⟨ret_int HB.out.symm, rfl⟩
  ·by_cases h2 : s > 2000
   ·go_enter Tryz.func78, Tryz.ntmps78
    go_wp2
    go_ret
    exact ⟨ret_int HB.out.symm, rfl⟩
   ·have hsd : side k = false := by unfold side; simp; omega
    go_enter Tryz.func78, Tryz.ntmps78
    go_wp2_with (go_at_call 64; refine (isSide_any _ _).mono ?_; rintro e w' ⟨rfl, hw⟩; obtain rfl := hw.symm)
    go_ret
    exact ⟨ret_int HB.out.symm, rfl⟩
theorem sBodyLen_any (s k : Int) (w : World) : Calls Tryz.prog 84 #[.int .i64 s, .int .i64 k] w fun e w' => e = .returned (.int .i64 (blI s k)) ∧ w' = w := by
 by_cases h : 0 ≤ s ∧ s ≤ 2000 ∧ 1 ≤ k ∧ k ≤ 16
 ·obtain ⟨h1, h2, h3, h4⟩ := h
  obtain ⟨S, rfl⟩ := Int.eq_ofNat_of_zero_le h1
  obtain ⟨K, rfl⟩ := Int.eq_ofNat_of_zero_le (show 0 ≤ k by omega)
  have hi1 : inB (S : Int) 0 2000 = true := by unfold inB; simp; omega
  have hi2 : inB (K : Int) 1 16 = true := by unfold inB; simp; omega
  have HB : Hid (blI (S : Int) (K : Int) = ((blen S K : Nat) : Int)) := blI_yes (by omega) (by omega) (by omega)
  have hq := quo_blen (s := S) (k := K) (by omega)
  have hw1 : IntKind.i64.wrap ((S : Int) + 2) = (S : Int) + 2 := by rw [IntKind.wrap_i64]; omega
  have hw2 : IntKind.i64.wrap ((S : Int) + 2 + (K : Int)) = (S : Int) + 2 + (K : Int) := by rw [IntKind.wrap_i64]; omega
  have hw3 : IntKind.i64.wrap ((S : Int) + 2 + (K : Int) - 1) = (S : Int) + 2 + (K : Int) - 1 := by rw [IntKind.wrap_i64]; omega
  have hbl := blen_le (s := S) (k := K) (by omega)
  have hw4 : IntKind.i64.wrap ((blen S K : Nat) : Int) = ((blen S K : Nat) : Int) := by rw [IntKind.wrap_i64]; omega
  have hk0 : ((K : Int) == 0) = false := by simp; omega
  have hk0' : ¬ ((K : Int) = 0) := by omega
  generalize blen S K = b at hq hw4 HB
  go_enter Tryz.func84, Tryz.ntmps84
  go_wp2_with (go_at_call 41; refine (sIn_any _ _ _ _).mono ?_; rintro e w' ⟨rfl, hw⟩; obtain rfl := hw.symm)
  go_ret
  exact ⟨ret_int (by rw [HB.out] <;> simp [*]), rfl⟩
 ·have HB : Hid (blI s k = -1) := blI_no h
  by_cases h1 : 0 ≤ s ∧ s ≤ 2000
  ·have hi1 : inB s 0 2000 = true := by unfold inB; simp; omega
   have hi2 : inB k 1 16 = false := by unfold inB; simp; omega
   go_enter Tryz.func84, Tryz.ntmps84
   go_wp2_with (go_at_call 41; refine (sIn_any _ _ _ _).mono ?_; rintro e w' ⟨rfl, hw⟩; obtain rfl := hw.symm)
   go_ret
   exact ⟨ret_int HB.out.symm, rfl⟩
  ·have hi1 : inB s 0 2000 = false := by unfold inB; simp; omega
   go_enter Tryz.func84, Tryz.ntmps84
   go_wp2_with (go_at_call 41; refine (sIn_any _ _ _ _).mono ?_; rintro e w' ⟨rfl, hw⟩; obtain rfl := hw.symm)
   go_ret
   exact ⟨ret_int HB.out.symm, rfl⟩
end Go.Proofs.YtodnodekheaacaaGreatDoor
