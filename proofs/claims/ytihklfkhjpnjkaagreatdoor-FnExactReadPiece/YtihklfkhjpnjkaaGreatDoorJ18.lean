import Derived.Test.YtihklfkhjpnjkaaGreatDoorJ6
import Derived.Test.YtihklfkhjpnjkaaGreatDoorJ10
import Derived.Test.YtihklfkhjpnjkaaGreatDoorJ17
import Derived.Test.YtihklfkhjpnjkaaGreatDoorJ15
set_option maxHeartbeats 8000000
set_option maxRecDepth 2000
open Go.ChangeShapes Go.WideShapes Go.ChangeAt Go.RowKit
namespace Go.Proofs.YtihklfkhjpnjkaaGreatDoor
theorem hexT_size (s : ByteArray) : (hexT s).size = 2 * s.size := by unfold hexT; rw [strOfNums_size, hxL_len]
theorem hxAt_lt {T : Nat → Nat} (hT : ∀ i, T i < 256) (i : Nat) : hxAt T i < 256 := by
 have := hT (i / 2)
 unfold hxAt
 split <;> exact dg_lt (by omega)
theorem hexT_at (s : ByteArray) (i : Nat) (h : i < 2 * s.size) : tat (hexT s) i = hxAt (tat s) i := by
 unfold hexT
 rw [tat_str, show (hxL (tat s) (2 * s.size)).getD i 0 = ((hxAt (tat s) i : Nat) : Int) by simp [hxL, List.getD, h], Int.toNat_natCast, Nat.mod_eq_of_lt (hxAt_lt (tat_lt s) i)]
theorem hexT_hi (s : ByteArray) (i : Nat) (h : i < s.size) : ix (tat (hexT s) (2 * i)) = ((tat s i / 16 : Nat) : Int) := by
 have := tat_lt s i
 rw [hexT_at s _ (by omega), hxAt, if_pos (by omega), show 2 * i / 2 = i by omega, ix_dg (by omega)]
theorem hexT_lo (s : ByteArray) (i : Nat) (h : i < s.size) : ix (tat (hexT s) (2 * i + 1)) = ((tat s i % 16 : Nat) : Int) := by
 rw [hexT_at s _ (by omega), hxAt, if_neg (by omega), show (2 * i + 1) / 2 = i by omega, ix_dg (by omega)]
theorem hex_ok (s : ByteArray) : hbF (hexT s) = true := by
 unfold hbF
 rw [hexT_size, show 2 * s.size / 2 = s.size by omega, Bool.and_eq_true]
 refine ⟨by simp, oks_iff.2 fun i hi => ?_⟩
 unfold okp
 rw [hexT_hi s i hi, hexT_lo s i hi, Bool.and_eq_true, decide_eq_true_eq, decide_eq_true_eq]
 exact ⟨Int.natCast_nonneg _, Int.natCast_nonneg _⟩
theorem hbL_get (T : Nat → Nat) (m k : Nat) (h : k < m) : tat (strOfNums (hbL T m)) k = hbv T k := by
 rw [tat_str, hbL_at T m k h, Int.toNat_natCast, Nat.mod_eq_of_lt (hbv_lt T k)]
theorem hex_back (s : ByteArray) : hbS (hexT s) = s := by
 unfold hbS
 rw [if_pos (hex_ok s), hexT_size, show 2 * s.size / 2 = s.size by omega]
 have hz : (strOfNums (hbL (tat (hexT s)) s.size)).size = s.size := by rw [strOfNums_size, hbL_len]
 refine str_ext hz (fun k => ?_)
 by_cases hk : k < s.size
 ·rw [hbL_get _ _ _ hk, hbv, hexT_hi s k hk, hexT_lo s k hk, Int.toNat_natCast, Int.toNat_natCast]
  omega
 ·rw [tat_out _ k (by omega), tat_out s k hk]
theorem hbS_le (u : ByteArray) : (hbS u).size ≤ u.size := by
 unfold hbS
 split
 ·rw [strOfNums_size, hbL_len]; omega
 ·exact Nat.zero_le _
end Go.Proofs.YtihklfkhjpnjkaaGreatDoor
