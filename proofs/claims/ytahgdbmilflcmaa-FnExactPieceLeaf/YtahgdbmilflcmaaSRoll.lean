/- A long turned by any whole number: what the library's function, the program's and its model answer. No condition. -/
import Derived.Test.YtahgdbmilflcmaaGs
import Derived.Test.YtahgdbmilflcmaaRows
import Derived.Test.YtahgdbmilflcmaaField
import Derived.Test.YtahgdbmilflcmaaFrame
import Derived.Laws.Shifts
namespace Go.Proofs.Ytahgdbmilflcmaa
set_option maxRecDepth 2000
open Go.ChangeShapes Go.WideShapes Go.ChangeAt Go.RowKit
open Gs (U rolI)

theorem U_wf {a : Int} (h : (Lit.int .u64 a).wf = true) : ∃ x, a = U x := by
  simp [Lit.wf, IntKind.min, IntKind.max, IntKind.signed, IntKind.bits] at h
  exact Gs.U_of (by omega) (by omega)

set_option maxHeartbeats 400000 in
theorem rotate_any (x : BitVec 64) (n : Int) (w : World) : Calls Try.prog 121 #[.int .u64 (U x), .int .i64 n] w fun e w' => e = .returned (.int .u64 (U (rolI x n))) ∧ w' = w := by
  obtain ⟨s, HS⟩ : ∃ s : Nat, Hid (s = (n % 64).toNat) := ⟨_, rfl⟩
  have hs64 : s < 64 := by have := HS.out; omega
  have ha : bits .and .u64 (IntKind.u64.wrap n) 63 = (s : Int) := by
    obtain ⟨m, hm⟩ : ∃ m : Nat, IntKind.u64.wrap n = (m : Int) := ⟨(IntKind.u64.wrap n).toNat, by rw [IntKind.wrap_u64]; omega⟩
    have hm2 := hm
    rw [IntKind.wrap_u64] at hm2
    rw [hm]
    have := bits_and_u64_nat m 63 (by omega) (by omega)
    rw [show ((63 : Nat) : Int) = 63 from rfl] at this
    rw [this, show (63 : Nat) = 2 ^ 6 - 1 from rfl, Nat.and_two_pow_sub_one_eq_mod]
    have := HS.out
    omega
  go_enter Try.func121, Try.ntmps121
  go_wp2
  go_ret
  refine ⟨ret_int ?_, rfl⟩
  rw [ Gs.U_shl, Gs.U_shr, Gs.U_or, Gs.rol_shifts _ _ hs64, HS.out]
  rfl

set_option maxHeartbeats 400000 in
theorem roll_any (x : BitVec 64) (n : Int) (w : World) : Calls Try.prog 120 #[.int .u64 (U x), .int .i64 n] w fun e w' => e = .returned (.int .u64 (U (rolI x n))) ∧ w' = w := by
  go_enter Try.func120, Try.ntmps120
  go_wp2_with fail
  refine (rotate_any x n _).mono ?_
  rintro e w' ⟨rfl, hw⟩
  obtain rfl := hw.symm
  go_wp2
  go_ret
  exact ⟨rfl, rfl⟩

theorem tmod64 (n : Int) : n.tmod 64 = n % 64 ∨ n.tmod 64 = n % 64 - 64 ∧ n % 64 ≠ 0 ∧ n < 0 := by
  rw [Int.tmod_eq_emod]
  split
  · omega
  · simp only [show (64 : Int).natAbs = 64 from rfl]
    omega
theorem shl1 (x : BitVec 64) : IntKind.u64.wrap (U x * 2) = U (x <<< 1) := Gs.U_shl x 1
theorem shr63 (x : BitVec 64) : U x / (9223372036854775808 : Int) = U (x >>> 63) := Gs.U_shr x 63

set_option maxHeartbeats 800000 in
theorem sRoll_any (x : BitVec 64) (n : Int) (w : World) : Calls Try.prog 116 #[.int .u64 (U x), .int .i64 n] w fun e w' => e = .returned (.int .u64 (U (rolI x n))) ∧ w' = w := by
  obtain ⟨r, HR⟩ : ∃ r : Nat, Hid (r = (n % 64).toNat) := ⟨_, rfl⟩
  have hr64 : r < 64 := by have := HR.out; omega
  by_cases hn : n.tmod 64 < 0
  · have hr : n.tmod 64 + 64 = (r : Int) := by have := HR.out; have := tmod64 n; omega
    go_enter Try.func116, Try.ntmps116
    go_wp2
    go_loop [0, 6] (fun v i => ∃ k : Nat, k ≤ r ∧ i = .int .i64 k ∧ v = .int .u64 (U (Gs.rol x k))) (fun _ i => r - (intOf i).toNat)
    case atStart => exact ⟨0, Nat.zero_le _, rfl, by rw [Gs.rol_zero]⟩
    case round =>
      obtain ⟨k, hk, rfl, rfl⟩ := hrel
      by_cases hlt : k < r
      · have hlti : (k : Int) < (r : Int) := by omega
        go_wp2
        exact ⟨⟨k + 1, by omega, by go_num, by rw [shl1, shr63, Gs.U_or, Gs.rol_one]⟩, by simp [intOf]; omega⟩
      · have e : k = r := by omega
        subst e
        go_wp2
        go_ret
        have e2 : rolI x n = Gs.rol x k := by unfold rolI; rw [← HR.out]
        exact ⟨by rw [e2]; rfl, rfl⟩
  · have hr : n.tmod 64 = (r : Int) := by have := HR.out; have := tmod64 n; omega
    go_enter Try.func116, Try.ntmps116
    go_wp2
    go_loop [0, 6] (fun v i => ∃ k : Nat, k ≤ r ∧ i = .int .i64 k ∧ v = .int .u64 (U (Gs.rol x k))) (fun _ i => r - (intOf i).toNat)
    case atStart => exact ⟨0, Nat.zero_le _, rfl, by rw [Gs.rol_zero]⟩
    case round =>
      obtain ⟨k, hk, rfl, rfl⟩ := hrel
      by_cases hlt : k < r
      · have hlti : (k : Int) < (r : Int) := by omega
        go_wp2
        exact ⟨⟨k + 1, by omega, by go_num, by rw [shl1, shr63, Gs.U_or, Gs.rol_one]⟩, by simp [intOf]; omega⟩
      · have e : k = r := by omega
        subst e
        go_wp2
        go_ret
        have e2 : rolI x n = Gs.rol x k := by unfold rolI; rw [← HR.out]
        exact ⟨by rw [e2]; rfl, rfl⟩
end Go.Proofs.Ytahgdbmilflcmaa
