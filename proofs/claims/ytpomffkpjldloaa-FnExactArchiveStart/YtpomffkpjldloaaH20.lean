/- The plain mathematics of fragments' bodies: texts as rows of byte numbers, bodies as products of a matrix and the pieces of a text, the frame round a text. Nothing of Go's text is walked; conditions stand at each theorem. -/
import Derived.Test.YtpomffkpjldloaaH7
import Derived.Test.YtpomffkpjldloaaH6
import Derived.Test.YtpomffkpjldloaaH17
namespace Go.Proofs.Ytpomffkpjldloaa
set_option maxRecDepth 2000
open Go.Proofs.Ytpomffkpjldloaa.Gp (m m_lt m_comm m_assoc m_xor xor_m m_zero zero_m m_one one_m m_nat m_ne xor_self xor_left xor_can xor_eq xor_lt)

/-- The text of the first 'l' of 'f'. -/
def txt (f : Nat → Nat) (l : Nat) : ByteArray := strOfNums (eI f l)
/-- How long each body is. -/
def blen (s k : Nat) : Nat := (s + 2 + k - 1) / k
/-- A text behind its length and ahead of noughts. -/
def frm (s : ByteArray) (q : Nat) : Nat := if q = 0 then s.size / 256 else if q = 1 then s.size % 256 else tat s (q - 2)
/-- The pieces of a whole, each 'l' long. -/
def pcs (W : Nat → Nat) (l i p : Nat) : Nat := W (i * l + p)
/-- The pieces of a text in 'k' bodies. -/
def enc (s : ByteArray) (k i p : Nat) : Nat := pcs (frm s) (blen s.size k) i p
/-- What a whole tells, as the program asks it. -/
def tells (W : Nat → Nat) (N k : Nat) : Prop := 2 ≤ N ∧ W 0 * 256 + W 1 ≤ 2000 ∧ N = k * blen (W 0 * 256 + W 1) k ∧ ∀ q, W 0 * 256 + W 1 + 2 ≤ q → q < N → W q = 0
def told (W : Nat → Nat) : ByteArray := txt (fun q => W (q + 2)) (W 0 * 256 + W 1)
end Go.Proofs.Ytpomffkpjldloaa
