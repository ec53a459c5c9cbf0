/- Hexadecimal digits: which a number has, which number a sign is, in the program and in its model. No condition. -/
import Derived.Test.YtlcaofbangbjlaaSMix
import Derived.Test.YtlcaofbangbjlaaTextM
import Derived.Laws.StandIn
namespace Go.Proofs.Ytlcaofbangbjlaa
open Go.ChangeShapes Go.WideShapes Go.ChangeAt Go.RowKit

/-- The digits. -/
abbrev HXD : ByteArray := ⟨#[48, 49, 50, 51, 52, 53, 54, 55, 56, 57, 97, 98, 99, 100, 101, 102]⟩
def dg (k : Nat) : Nat := if k < 10 then 48 + k else 87 + k
def ix (c : Nat) : Int := if 48 ≤ c ∧ c ≤ 57 then (c : Int) - 48 else if 97 ≤ c ∧ c ≤ 102 then (c : Int) - 87 else -1
theorem dg_lt {k : Nat} (h : k < 16) : dg k < 256 := by unfold dg; split <;> omega
theorem ix_dg {k : Nat} (h : k < 16) : ix (dg k) = (k : Int) := by unfold ix dg; split <;> split <;> omega
theorem ix_no {c : Nat} (h : ∀ j, j < 16 → dg j ≠ c) : ix c = -1 := by
  unfold ix
  split
  · exact absurd (by unfold dg; split <;> omega) (h (c - 48) (by omega))
  · split
    · exact absurd (by unfold dg; split <;> omega) (h (c - 87) (by omega))
    · rfl
theorem ix_lt (c : Nat) : ix c < 16 := by unfold ix; split <;> (try split) <;> omega
theorem ix_ge (c : Nat) : -1 ≤ ix c := by unfold ix; split <;> (try split) <;> omega
theorem dg_ix {c : Nat} (h : 0 ≤ ix c) : dg (ix c).toNat = c := by
  unfold ix at *
  split at h
  · rename_i h1
    rw [if_pos h1]
    unfold dg
    split <;> omega
  · split at h
    · rename_i h1 h2
      rw [if_neg h1, if_pos h2]
      unfold dg
      split <;> omega
    · omega
theorem hxd_at : ∀ k : Nat, k < 16 → (HXD.data.toList.getD k 0).toNat = dg k := by decide +kernel
theorem hxd_get (k : Nat) (h : k < (⟨#[48, 49, 50, 51, 52, 53, 54, 55, 56, 57, 97, 98, 99, 100, 101, 102]⟩ : ByteArray).size) : (⟨#[48, 49, 50, 51, 52, 53, 54, 55, 56, 57, 97, 98, 99, 100, 101, 102]⟩ : ByteArray)[k].toNat = dg k :=
  (tat_in HXD k h).symm.trans (hxd_at k h)
theorem first_ix : ∀ c : Nat, c < 256 → firstIdx HXD c.toUInt8 = ix c := by decide +kernel

theorem idx_run (c : Nat) (hc : c < 256) (w : World) : (callFunc 57 #[.string HXD, .int .u8 (c : Int)]).run Try.prog w = .ok (.value (.int .i64 (ix c))) w := by
  rw [run_callFunc_indexByte Try.func57 (by kernel_rfl) (by kernel_rfl) (by kernel_rfl) (by kernel_rfl), run_indexByte_string]
  simp only [Int.toNat_natCast, first_ix c hc, Result.andThen]

set_option maxHeartbeats 400000 in
theorem lite_any (c : Nat) (hc : c < 256) (w : World) : Calls Try.prog 56 #[.string HXD, .int .u8 (c : Int)] w fun e w' => e = .returned (.int .i64 (ix c)) ∧ w' = w := by
  have hr := idx_run c hc
  go_enter Try.func56, Try.ntmps56
  go_wp2
  go_ret
  exact ⟨rfl, rfl⟩

set_option maxHeartbeats 400000 in
theorem indexByte_any (c : Nat) (hc : c < 256) (w : World) : Calls Try.prog 49 #[.string HXD, .int .u8 (c : Int)] w fun e w' => e = .returned (.int .i64 (ix c)) ∧ w' = w := by
  go_enter Try.func49, Try.ntmps49
  go_wp2_with fail
  refine (lite_any c hc _).mono ?_
  rintro e w' ⟨rfl, hw⟩
  obtain rfl := hw.symm
  go_wp2
  go_ret
  exact ⟨rfl, rfl⟩

set_option maxHeartbeats 400000 in
theorem digit_any (c : Nat) (w : World) : Calls Try.prog 51 #[.int .u8 (c : Int)] w fun e w' => e = .returned (.int .i64 (ix c)) ∧ w' = w := by
  go_enter Try.func51, Try.ntmps51
  go_wp2
  go_loop [3] (fun i => ∃ k : Nat, k ≤ 16 ∧ i = .int .i64 k ∧ ∀ j, j < k → dg j ≠ c) (fun i => 16 - (intOf i).toNat)
  case atStart => exact ⟨0, Nat.zero_le _, rfl, fun j hj => absurd hj (Nat.not_lt_zero _)⟩
  case round =>
    obtain ⟨k, hk, rfl, hno⟩ := hrel
    have KN : Hid (∀ j, j < k → dg j ≠ c) := hno
    clear hno
    by_cases hlt : k < 16
    · have hd := hxd_get k hlt
      have hlti : (k : Int) < 16 := by omega
      by_cases he : dg k = c
      · have hx : ix c = (k : Int) := by rw [← he]; exact ix_dg hlt
        have hc : (((dg k : Nat) : Int) == (c : Int)) = true := by simp [he]
        clear he
        go_wp2
        go_ret
        exact ⟨rfl, rfl⟩
      · have hc : (((dg k : Nat) : Int) == (c : Int)) = false := by simp; omega
        have KM : Hid (∀ j, j < k + 1 → dg j ≠ c) := by
          intro j hj
          by_cases hjk : j = k
          · rw [hjk]; exact he
          · exact KN.out j (by omega)
        clear he
        go_wp2
        exact ⟨⟨k + 1, by omega, by go_num, KM.out⟩, by simp [intOf]; omega⟩
    · obtain rfl : k = 16 := by omega
      have hx := ix_no KN.out
      go_wp2
      go_ret
      exact ⟨rfl, rfl⟩
end Go.Proofs.Ytlcaofbangbjlaa
