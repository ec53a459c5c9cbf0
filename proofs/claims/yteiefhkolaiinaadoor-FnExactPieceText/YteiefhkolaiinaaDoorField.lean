/- What each function of the field answers, in the program and in its model, at every number: sums, products, powers, inverses, quotients, powers of two and logarithms; none turns anything that was there. No condition. -/
import Derived.Test.YteiefhkolaiinaaDoorTab
import Derived.Laws.BitsAllLaws
namespace Go.Proofs.YteiefhkolaiinaaDoor
set_option maxRecDepth 2000
open Go.ChangeShapes Go.WideShapes Go.ChangeAt Go.RowKit

theorem ret_int {k : IntKind} {a b : Int} (h : a = b) : Ending.returned (.int k a) = .returned (.int k b) := by rw [h]
theorem below3 {a b c d : World} (h1 : Below a.heap.size a b) (h2 : Below b.heap.size b c) (h3 : Below c.heap.size c d) : Below a.heap.size a d :=
  (h1.trans (h2.mono h1.size)).trans (h3.mono (Nat.le_trans h1.size h2.size))
theorem below2 {a b c : World} (h1 : Below a.heap.size a b) (h2 : Below b.heap.size b c) : Below a.heap.size a c :=
  h1.trans (h2.mono h1.size)

theorem ret_bool {a b : Bool} (h : a = b) : Ending.returned (.bool a) = .returned (.bool b) := by rw [h]
theorem xor_i64 (a b : Nat) (ha : a < 4294967296) (hb : b < 4294967296) : bits .xor .i64 (a : Int) (b : Int) = ((a ^^^ b : Nat) : Int) := by
  have hx : a ^^^ b < 2 ^ 32 := Nat.xor_lt_two_pow (by omega) (by omega)
  show IntKind.i64.wrap ((BitVec.ofInt 64 (a : Int) ^^^ BitVec.ofInt 64 (b : Int)).toNat : Int) = _
  rw [BitVec.toNat_xor, ofInt_u64 a (by omega), ofInt_u64 b (by omega), IntKind.wrap_i64]
  omega

/-- A byte number. -/
def isB (a : Int) : Bool := decide (0 ≤ a ∧ a ≤ 255)
theorem isB_nat {a : Int} (h : isB a = true) : ∃ n : Nat, n < 256 ∧ a = (n : Int) := by
  simp [isB] at h
  exact ⟨a.toNat, by omega, by omega⟩
theorem isB_ofNat {n : Nat} (h : n < 256) : isB (n : Int) = true := by simp [isB]; omega
theorem isB_no {a : Int} (h : isB a = false) : a < 0 ∨ 255 < a := by simp [isB] at h; omega

def addI (a b : Int) : Int := if isB a = true ∧ isB b = true then ((a.toNat ^^^ b.toNat : Nat) : Int) else -1
def mulI (a b : Int) : Int := if isB a = true ∧ isB b = true then ((Gf.mul a.toNat b.toNat : Nat) : Int) else -1
def powI (a n : Int) : Int := if isB a = true ∧ 0 ≤ n ∧ n ≤ 1000000 then ((Gf.gpow a.toNat n.toNat : Nat) : Int) else -1
def invI (a : Int) : Int := if 1 ≤ a ∧ a ≤ 255 then ((Gf.inv a.toNat : Nat) : Int) else -1
def divI (a b : Int) : Int := mulI a (invI b)
def expI (n : Int) : Int := ((Gf.ex (n % 255).toNat : Nat) : Int)
def logI (a : Int) : Int := if 1 ≤ a ∧ a ≤ 255 then ((Gf.lg a.toNat : Nat) : Int) else -1

/-! ### The program's small functions -/
/-! ### The program's functions, at every number -/
/-! ### The model's functions, at every number -/
def inB (x a b : Int) : Bool := decide (a ≤ x ∧ x ≤ b)
end Go.Proofs.YteiefhkolaiinaaDoor
