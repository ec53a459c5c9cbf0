/- Leaves and joins, in the program and in its model: what each answers. Condition: texts of at most 2^20 bytes. -/
import Derived.Test.YtahgdbmilflcmaaGt
namespace Go.Proofs.Ytahgdbmilflcmaa
set_option maxRecDepth 2000
open Go.ChangeShapes Go.WideShapes Go.ChangeAt Go.RowKit
open Gt (jn lf)

theorem one_app (x : UInt8) (s : ByteArray) : ((⟨#[x]⟩ : ByteArray) ++ s).size = s.size + 1 := by rw [ByteArray.size_append, show (⟨#[x]⟩ : ByteArray).size = 1 from rfl]; omega

set_option maxHeartbeats 1000000 in
theorem leaf_any (s : ByteArray) (w : World) (hs : s.size ≤ 1048576) : Calls Try.prog 54 #[.string s] w fun e w' => e = .returned (.string (lf s)) ∧ Below w.heap.size w w' := by
  have h1 := one_app 0 s
  have HS : Hid (∀ w0, Calls Try.prog 79 #[.string ((⟨#[0]⟩ : ByteArray) ++ s)] w0 fun e w' => e = .returned (.string (lf s)) ∧ Below w0.heap.size w0 w') := fun w0 => sum_wide _ w0 (by omega)
  have hb1 : (⟨#[0]⟩ : ByteArray).size = 1 := rfl
  go_enter Try.func54, Try.ntmps54
  go_wp2_with fail
  refine (HS.out _).mono ?_
  rintro e w1 ⟨rfl, b1⟩
  go_wp2
  go_ret
  exact ⟨rfl, b1⟩
set_option maxHeartbeats 1000000 in
theorem join_any (a b : ByteArray) (w : World) (ha : a.size ≤ 1048576) (hb : b.size ≤ 1048576) : Calls Try.prog 77 #[.string a, .string b] w fun e w' => e = .returned (.string (jn a b)) ∧ Below w.heap.size w w' := by
  have h1 := one_app 1 a
  have h2 : ((⟨#[1]⟩ : ByteArray) ++ a ++ b).size = a.size + 1 + b.size := by rw [ByteArray.size_append, h1]
  have HS : Hid (∀ w0, Calls Try.prog 79 #[.string ((⟨#[1]⟩ : ByteArray) ++ a ++ b)] w0 fun e w' => e = .returned (.string (jn a b)) ∧ Below w0.heap.size w0 w') := fun w0 => sum_wide _ w0 (by omega)
  have hb1 : (⟨#[1]⟩ : ByteArray).size = 1 := rfl
  go_enter Try.func77, Try.ntmps77
  go_wp2_with fail
  refine (HS.out _).mono ?_
  rintro e w1 ⟨rfl, b1⟩
  go_wp2
  go_ret
  exact ⟨rfl, b1⟩

set_option maxHeartbeats 1000000 in
theorem sleaf_any (s : ByteArray) (w : World) (hs : s.size ≤ 1048576) : Calls Try.prog 52 #[.string s] w fun e w' => e = .returned (.string (lf s)) ∧ Below w.heap.size w w' := by
  have h1 := one_app 0 s
  have HS : Hid (∀ w0, Calls Try.prog 78 #[.string ((⟨#[0]⟩ : ByteArray) ++ s)] w0 fun e w' => e = .returned (.string (lf s)) ∧ Below w0.heap.size w0 w') := fun w0 => sSum_wide _ w0 (by omega)
  have hb1 : (⟨#[0]⟩ : ByteArray).size = 1 := rfl
  go_enter Try.func52, Try.ntmps52
  go_wp2_with fail
  refine (HS.out _).mono ?_
  rintro e w1 ⟨rfl, b1⟩
  go_wp2
  go_ret
  exact ⟨rfl, b1⟩
set_option maxHeartbeats 1000000 in
theorem sjoin_any (a b : ByteArray) (w : World) (ha : a.size ≤ 1048576) (hb : b.size ≤ 1048576) : Calls Try.prog 75 #[.string a, .string b] w fun e w' => e = .returned (.string (jn a b)) ∧ Below w.heap.size w w' := by
  have h1 := one_app 1 a
  have h2 : ((⟨#[1]⟩ : ByteArray) ++ a ++ b).size = a.size + 1 + b.size := by rw [ByteArray.size_append, h1]
  have HS : Hid (∀ w0, Calls Try.prog 78 #[.string ((⟨#[1]⟩ : ByteArray) ++ a ++ b)] w0 fun e w' => e = .returned (.string (jn a b)) ∧ Below w0.heap.size w0 w') := fun w0 => sSum_wide _ w0 (by omega)
  have hb1 : (⟨#[1]⟩ : ByteArray).size = 1 := rfl
  go_enter Try.func75, Try.ntmps75
  go_wp2_with fail
  refine (HS.out _).mono ?_
  rintro e w1 ⟨rfl, b1⟩
  go_wp2
  go_ret
  exact ⟨rfl, b1⟩

end Go.Proofs.Ytahgdbmilflcmaa
