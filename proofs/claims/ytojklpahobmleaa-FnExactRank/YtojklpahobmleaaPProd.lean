/- The program's product of polynomials, and the polynomials that are 0 at places. Conditions: byte numbers, at most 100 factors of at most 1000 numbers. -/
import Derived.Test.YtojklpahobmleaaPDiv
namespace Go.Proofs.Ytojklpahobmleaa
open Go.ChangeShapes Go.WideShapes Go.ChangeAt Go.RowKit

/-- The product of the first factors, and its length. -/
def pf (F : Nat → Nat → Nat) (N : Nat → Nat) : Nat → (Nat → Nat) × Nat
  | 0 => (Gp.one, 1)
  | i + 1 => (Gp.cv (pf F N i).1 (F i) (pf F N i).2, Gp.tl (Gp.cv (pf F N i).1 (F i) (pf F N i).2) ((pf F N i).2 + N i))
theorem pf_pol {F : Nat → Nat → Nat} {N : Nat → Nat} {k : Nat} (h : ∀ i, i < k → Gp.Pol (F i) (N i)) : ∀ i, i ≤ k → Gp.Pol (pf F N i).1 (pf F N i).2 := by
  intro i
  induction i with
  | zero => intro _; exact Gp.one_pol
  | succ i ih => intro hi; exact (Gp.cv_pol (h i (by omega))).tl
theorem pf_len {F : Nat → Nat → Nat} {N : Nat → Nat} {k : Nat} (h : ∀ i, i < k → N i ≤ 1000) : ∀ i, i ≤ k → (pf F N i).2 ≤ 1 + 1000 * i := by
  intro i
  induction i with
  | zero => intro _; exact Nat.le_refl _
  | succ i ih =>
    intro hi
    have h1 := ih (by omega)
    have h2 := h i (by omega)
    have h3 := Gp.tl_le (Gp.cv (pf F N i).1 (F i) (pf F N i).2) ((pf F N i).2 + N i)
    show Gp.tl _ _ ≤ _
    omega
theorem pf_succ (F : Nat → Nat → Nat) (N : Nat → Nat) (i : Nat) : pf F N (i + 1) = (Gp.cv (pf F N i).1 (F i) (pf F N i).2, Gp.tl (Gp.cv (pf F N i).1 (F i) (pf F N i).2) ((pf F N i).2 + N i)) := rfl

/-- A row of polynomials. -/
def Facs (w : World) (g k : Nat) (A : Nat → Option Addr) (N C : Nat → Nat) (F : Nat → Nat → Nat) : Prop :=
  ∀ i, i < k → w.cell? ⟨g, i, none⟩ = some (.slice (A i) (N i) (C i)) ∧ Els w (A i) (N i) (C i) (F i)
theorem Facs.below {w w' : World} {g k : Nat} {A : Nat → Option Addr} {N C : Nat → Nat} {F : Nat → Nat → Nat} (h : Facs w g k A N C F) (hb : Below w.heap.size w w') : Facs w' g k A N C F := fun i hi =>
  ⟨(hb.cell (p := ⟨g, i, none⟩) (block_lt_of_cell (h i hi).1)).trans (h i hi).1, (h i hi).2.below hb⟩

theorem one_els (w : World) : Els (w.alloc (.cells #[.int .u8 1] 59)) (some ⟨w.heap.size, 0, none⟩) 1 1 Gp.one := by
  refine ⟨Nat.le_refl _, .inr ⟨_, rfl, by simp, fun i hi => ?_⟩⟩
  obtain rfl : i = 0 := by omega
  rw [cell_of_row _ _ _ _ _ _ (heap_alloc_new w _)]
  rfl

end Go.Proofs.Ytojklpahobmleaa
