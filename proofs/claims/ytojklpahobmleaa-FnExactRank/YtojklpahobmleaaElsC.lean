/- The program's functions over polynomials that write or call in an open order: numbers, putting one scaled on top of another, values. Conditions: lists of at most 2^20 numbers, byte numbers. -/
import Derived.Test.YtojklpahobmleaaElsB
namespace Go.Proofs.Ytojklpahobmleaa
open Go.ChangeShapes Go.WideShapes Go.ChangeAt Go.RowKit

theorem ownI_of {w : World} {B g n : Nat} {f : Nat → Nat} (h : w.ownsRow B 3 1 (.slice (some ⟨g, 0, none⟩) n n) n ((eI f n).map (Value.int .i64))) : OwnI w B (.slice (some ⟨g, 0, none⟩) n n) (eI f n) := by
  unfold OwnI
  rw [eI_len]
  exact h

theorem below_of_drew {w w1 : World} (h : Below w.drew.heap.size w.drew w1) : Below w.heap.size w w1 := ⟨h.os, h.tape, h.output, h.size, h.block⟩
/-- Behind 'k' numbers: 'o' scaled stands on top of 'f' from 'shift' on. -/
def onTop (f o : Nat → Nat) (scale shift k i : Nat) : Nat := if shift ≤ i ∧ i < shift + k then f i ^^^ Gp.m (o (i - shift)) scale else f i

theorem onTop_step {f o : Nat → Nat} {scale shift k j : Nat} (ho : o k < 256) (hs : scale < 256) (hj : shift + k = j) (i : Nat) : (if i = j then f j ^^^ Gf.mul (o k) scale else onTop f o scale shift k i) = onTop f o scale shift (k + 1) i := by
  subst hj
  unfold onTop
  by_cases e : i = shift + k
  · subst e
    rw [if_pos rfl, if_pos (by omega), Gp.m_nat ho hs, show shift + k - shift = k by omega]
  · rw [if_neg e]
    by_cases h : shift ≤ i ∧ i < shift + k
    · rw [if_pos h, if_pos (by omega)]
    · rw [if_neg h, if_neg (by omega)]
theorem onTop_sh {f o : Nat → Nat} {scale shift n : Nat} (ho : ∀ i, n ≤ i → o i = 0) (i : Nat) : onTop f o scale shift n i = f i ^^^ Gp.m (Gp.sh shift o i) scale := by
  unfold onTop Gp.sh
  by_cases h : shift ≤ i
  · by_cases h2 : i < shift + n
    · rw [if_pos ⟨h, h2⟩, if_pos h]
    · rw [if_neg (by omega), if_pos h, ho _ (by omega), Gp.zero_m, Nat.xor_zero]
  · rw [if_neg (by omega), if_neg h, Gp.zero_m, Nat.xor_zero]
theorem grown_step {w w1 w2 : World} {g : Nat} {v : Value} {k : Nat} (h0 : w.grownBy w1 (some g)) (hb : Below w1.heap.size w1 w2) (h2 : w2.grownBy (w2.setCell ⟨g, k, none⟩ v) (some g)) : w.grownBy (w2.setCell ⟨g, k, none⟩ v) (some g) :=
  ⟨h2.os.trans (hb.os.trans h0.os), h2.tape.trans (hb.tape.trans h0.tape), h2.output.trans (hb.output.trans h0.output), Nat.le_trans h0.size (Nat.le_trans hb.size h2.size), fun j hj hn => ((h2.block j (Nat.lt_of_lt_of_le hj (Nat.le_trans h0.size hb.size)) hn).trans (hb.block j (Nat.lt_of_lt_of_le hj h0.size))).trans (h0.block j hj hn)⟩

end Go.Proofs.Ytojklpahobmleaa
