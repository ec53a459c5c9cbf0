/- The plain mathematics of polynomials over the field of 256 numbers: products, values, division, the polynomial through places. A polynomial is the row of its numbers, a function from places to numbers. Nothing of Go's text is used; conditions stand at each theorem. -/
import Derived.Test.YtggmcgcmpgofcaaH2
namespace Go.Proofs.Ytggmcgcmpgofcaa.Gp

/-- The product, at every two numbers. -/
def m (a b : Nat) : Nat := Gf.mul (a % 256) (b % 256)
theorem m_lt (a b : Nat) : m a b < 256 := Gf.mul_lt (by omega) (by omega)
theorem m_mod (a b : Nat) : m a b % 256 = m a b := Nat.mod_eq_of_lt (m_lt a b)
theorem m_comm (a b : Nat) : m a b = m b a := Gf.mul_comm (by omega) (by omega)
theorem m_assoc (a b c : Nat) : m (m a b) c = m a (m b c) := by
  show Gf.mul (m a b % 256) _ = Gf.mul _ (m b c % 256)
  rw [m_mod, m_mod]
  exact Gf.mul_assoc (by omega) (by omega) (by omega)
theorem m_left (a b c : Nat) : m a (m b c) = m b (m a c) := by rw [← m_assoc, m_comm a b, m_assoc]
theorem xor_mod (b c : Nat) : (b ^^^ c) % 256 = (b % 256) ^^^ (c % 256) := Nat.xor_mod_two_pow (n := 8)
theorem m_xor (a b c : Nat) : m a (b ^^^ c) = m a b ^^^ m a c := by
  unfold m
  rw [xor_mod, Gf.mul_xor]
theorem xor_m (a b c : Nat) : m (b ^^^ c) a = m b a ^^^ m c a := by rw [m_comm, m_xor, m_comm a b, m_comm a c]
theorem m_zero (a : Nat) : m a 0 = 0 := Gf.mul_zero (by omega)
theorem zero_m (a : Nat) : m 0 a = 0 := Gf.zero_mul (by omega)
theorem m_one {a : Nat} (h : a < 256) : m a 1 = a := by
  unfold m
  rw [Nat.mod_eq_of_lt h]
  exact Gf.mul_one h
theorem one_m {a : Nat} (h : a < 256) : m 1 a = a := by rw [m_comm, m_one h]
theorem m_nat {a b : Nat} (ha : a < 256) (hb : b < 256) : Gf.mul a b = m a b := by unfold m; rw [Nat.mod_eq_of_lt ha, Nat.mod_eq_of_lt hb]
theorem m_inv {a : Nat} (ha : a < 256) (a0 : a ≠ 0) : m a (Gf.inv a) = 1 := by rw [← m_nat ha (Gf.inv_lt a), Gf.mul_inv ha a0]
theorem m_ne {a b : Nat} (ha : a < 256) (hb : b < 256) (a0 : a ≠ 0) (b0 : b ≠ 0) : m a b ≠ 0 := by rw [← m_nat ha hb]; exact Gf.mul_ne ha hb a0 b0
theorem xor_self (a : Nat) : a ^^^ a = 0 := Nat.xor_self a
theorem xor_left (a b c : Nat) : a ^^^ (b ^^^ c) = b ^^^ (a ^^^ c) := by rw [← Nat.xor_assoc, Nat.xor_comm a b, Nat.xor_assoc]
theorem xor_can (a b : Nat) : a ^^^ (a ^^^ b) = b := by rw [← Nat.xor_assoc, Nat.xor_self, Nat.zero_xor]
theorem xor_eq {a b : Nat} (h : a ^^^ b = 0) : a = b := by
  have h2 : a ^^^ (a ^^^ b) = a ^^^ 0 := by rw [h]
  rw [xor_can, Nat.xor_zero] at h2
  exact h2.symm
theorem xor_lt {a b : Nat} (ha : a < 256) (hb : b < 256) : a ^^^ b < 256 := Gf.xor_lt ha hb

/-! ### Sums and products -/
def ad (f g : Nat → Nat) (i : Nat) : Nat := f i ^^^ g i
/-- A product by nothing but 1. -/
def one (i : Nat) : Nat := if i = 0 then 1 else 0
/-! ### Values -/
/-- The value of the numbers from place 'k' on, 'r' of them. -/
def hn (p : Nat → Nat) (x : Nat) : Nat → Nat → Nat
  | 0, _ => 0
  | r + 1, k => m (hn p x r (k + 1)) x ^^^ p k
/-! ### Division -/
section
variable (a b : Nat → Nat) (lead nb T : Nat)
end

/-! ### The polynomial through places -/
def lin (x : Nat) (p : Nat → Nat) : Nat → Nat
  | 0 => m (p 0) x
  | i + 1 => m (p (i + 1)) x ^^^ p i
/-- The product over the first 'k' places, and over them without place 'i'. -/
def pr (xs : Nat → Nat) : Nat → Nat → Nat
  | 0 => one
  | k + 1 => lin (xs k) (pr xs k)
/-- The length of the second. -/
def pl (i k : Nat) : Nat := if i < k then k else k + 1
end Go.Proofs.Ytggmcgcmpgofcaa.Gp
