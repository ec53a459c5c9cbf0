/- What each function of the field answers, in the program and in its model, at every number: sums, products, powers, inverses, quotients, powers of two and logarithms; none turns anything that was there. No condition. -/
import Derived.Test.YtahgdbmilflcmaaTab
import Derived.Laws.BitsAllLaws
namespace Go.Proofs.Ytahgdbmilflcmaa
set_option maxRecDepth 2000
open Go.ChangeShapes Go.WideShapes Go.ChangeAt Go.RowKit

theorem ret_int {k : IntKind} {a b : Int} (h : a = b) : Ending.returned (.int k a) = .returned (.int k b) := by rw [h]
theorem below3 {a b c d : World} (h1 : Below a.heap.size a b) (h2 : Below b.heap.size b c) (h3 : Below c.heap.size c d) : Below a.heap.size a d :=
  (h1.trans (h2.mono h1.size)).trans (h3.mono (Nat.le_trans h1.size h2.size))
theorem below2 {a b c : World} (h1 : Below a.heap.size a b) (h2 : Below b.heap.size b c) : Below a.heap.size a c :=
  h1.trans (h2.mono h1.size)

theorem ret_bool {a b : Bool} (h : a = b) : Ending.returned (.bool a) = .returned (.bool b) := by rw [h]
theorem xor_i64 (a b : Nat) (ha : a < 4294967296) (hb : b < 4294967296) : bits .xor .i64 (a : Int) (b : Int) = ((a ^^^ b : Nat) : Int) := by
  have hx : a ^^^ b < 2 ^ 32 := Nat.xor_lt_two_pow (by omega) (by omega)
  show IntKind.i64.wrap ((BitVec.ofInt 64 (a : Int) ^^^ BitVec.ofInt 64 (b : Int)).toNat : Int) = _
  rw [BitVec.toNat_xor, ofInt_u64 a (by omega), ofInt_u64 b (by omega), IntKind.wrap_i64]
  omega

/-- A byte number. -/
def isB (a : Int) : Bool := decide (0 ≤ a ∧ a ≤ 255)
theorem isB_nat {a : Int} (h : isB a = true) : ∃ n : Nat, n < 256 ∧ a = (n : Int) := by
  simp [isB] at h
  exact ⟨a.toNat, by omega, by omega⟩
theorem isB_ofNat {n : Nat} (h : n < 256) : isB (n : Int) = true := by simp [isB]; omega
theorem isB_no {a : Int} (h : isB a = false) : a < 0 ∨ 255 < a := by simp [isB] at h; omega

def addI (a b : Int) : Int := if isB a = true ∧ isB b = true then ((a.toNat ^^^ b.toNat : Nat) : Int) else -1
def mulI (a b : Int) : Int := if isB a = true ∧ isB b = true then ((Gf.mul a.toNat b.toNat : Nat) : Int) else -1
def powI (a n : Int) : Int := if isB a = true ∧ 0 ≤ n ∧ n ≤ 1000000 then ((Gf.gpow a.toNat n.toNat : Nat) : Int) else -1
def invI (a : Int) : Int := if 1 ≤ a ∧ a ≤ 255 then ((Gf.inv a.toNat : Nat) : Int) else -1
def divI (a b : Int) : Int := mulI a (invI b)
def expI (n : Int) : Int := ((Gf.ex (n % 255).toNat : Nat) : Int)
def logI (a : Int) : Int := if 1 ≤ a ∧ a ≤ 255 then ((Gf.lg a.toNat : Nat) : Int) else -1

/-! ### The program's small functions -/
set_option maxHeartbeats 400000 in
theorem isByte_any (a : Int) (w : World) : Calls Try.prog 53 #[.int .i64 a] w fun e w' => e = .returned (.bool (isB a)) ∧ w' = w := by
  go_enter Try.func53, Try.ntmps53
  go_wp2
  · go_ret
    exact ⟨ret_bool (by simp [isB, *]), rfl⟩
  · go_ret
    exact ⟨ret_bool (by simp [isB]; omega), rfl⟩

set_option maxHeartbeats 400000 in
theorem plus_any (a b : Nat) (w : World) (ha : a < 256) (hb : b < 256) : Calls Try.prog 100 #[.int .u8 (a : Int), .int .u8 (b : Int)] w fun e w' => e = .returned (.int .u8 ((a ^^^ b : Nat) : Int)) ∧ w' = w := by
  have hx := u8_xor_nat a b ha hb
  go_enter Try.func100, Try.ntmps100
  go_wp2
  go_ret
  exact ⟨rfl, rfl⟩

set_option maxHeartbeats 400000 in
theorem times_any (a b : Nat) (w : World) (ha : a < 256) (hb : b < 256) :
    Calls Try.prog 115 #[.int .u8 (a : Int), .int .u8 (b : Int)] w fun e w' => e = .returned (.int .u8 (Gf.mul a b : Nat)) ∧ Below w.heap.size w w' := by
  by_cases a0 : a = 0
  · subst a0
    have hm := Gf.zero_mul hb
    go_enter Try.func115, Try.ntmps115
    go_wp2
    go_ret
    exact ⟨ret_int (by rw [hm]; rfl), Below.refl _ _⟩
  · have a0' : ((a : Int) == 0) = false := by simp; omega
    by_cases b0 : b = 0
    · subst b0
      have hm := Gf.mul_zero ha
      go_enter Try.func115, Try.ntmps115
      go_wp2
      go_ret
      exact ⟨ret_int (by rw [hm]; rfl), Below.refl _ _⟩
    · have b0' : ((b : Int) == 0) = false := by simp; omega
      have hm : Hid (Gf.mul a b = Gf.ex ((Gf.lg a + Gf.lg b) % 255)) := Gf.mul_nz ha hb a0 b0
      have hl1 := Gf.lg_lt' a
      have hl2 := Gf.lg_lt' b
      go_enter Try.func115, Try.ntmps115
      go_wp2_with fail
      refine (log_any a _ ha).mono ?_
      rintro e w1 ⟨rfl, hb1⟩
      go_wp2_with fail
      refine (log_any b _ hb).mono ?_
      rintro e w2 ⟨rfl, hb2⟩
      go_wp2_with fail
      refine (pow2_any _ _).mono ?_
      rintro e w3 ⟨rfl, hb3⟩
      go_wp2
      go_ret
      exact ⟨ret_int (by rw [hm.out, show (((Gf.lg a : Nat) : Int) + ((Gf.lg b : Nat) : Int)) % 255 = (((Gf.lg a + Gf.lg b) % 255 : Nat) : Int) by omega, Int.toNat_natCast]), below3 hb1 hb2 hb3⟩

set_option maxHeartbeats 400000 in
theorem inverse_any (a : Nat) (w : World) (ha : a < 256) :
    Calls Try.prog 101 #[.int .u8 (a : Int)] w fun e w' => e = .returned (.int .u8 (Gf.inv a : Nat)) ∧ Below w.heap.size w w' := by
  have hl1 := Gf.lg_lt' a
  go_enter Try.func101, Try.ntmps101
  go_wp2_with fail
  refine (log_any a _ ha).mono ?_
  rintro e w1 ⟨rfl, hb1⟩
  go_wp2_with fail
  refine (pow2_any _ _).mono ?_
  rintro e w2 ⟨rfl, hb2⟩
  go_wp2
  go_ret
  refine ⟨ret_int ?_, below2 hb1 hb2⟩
  unfold Gf.inv
  congr 2
  omega

/-! ### The program's functions, at every number -/
/-! ### The model's functions, at every number -/
def inB (x a b : Int) : Bool := decide (a ≤ x ∧ x ≤ b)
set_option maxHeartbeats 400000 in
theorem sIn_any (x a b : Int) (w : World) : Calls Try.prog 45 #[.int .i64 x, .int .i64 a, .int .i64 b] w fun e w' => e = .returned (.bool (inB x a b)) ∧ w' = w := by
  go_enter Try.func45, Try.ntmps45
  go_wp2
  · go_ret
    exact ⟨ret_bool (by simp [inB, *]), rfl⟩
  · go_ret
    exact ⟨ret_bool (by simp [inB]; omega), rfl⟩
set_option maxHeartbeats 400000 in
theorem sIs_any (a : Int) (w : World) : Calls Try.prog 51 #[.int .i64 a] w fun e w' => e = .returned (.bool (isB a)) ∧ w' = w := by
  go_enter Try.func51, Try.ntmps51
  go_wp2_with fail
  refine (sIn_any _ _ _ _).mono ?_
  rintro e w1 ⟨rfl, rfl⟩
  go_wp2
  go_ret
  exact ⟨ret_bool rfl, rfl⟩

end Go.Proofs.Ytahgdbmilflcmaa
