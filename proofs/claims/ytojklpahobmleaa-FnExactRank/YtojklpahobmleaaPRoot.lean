/- The program's polynomials that are 0 at places. Conditions: byte numbers, at most 100 places. -/
import Derived.Test.YtojklpahobmleaaPProd
namespace Go.Proofs.Ytojklpahobmleaa
open Go.ChangeShapes Go.WideShapes Go.ChangeAt Go.RowKit

def rowP (G : Nat → Nat) (n k : Nat) : List Value := (List.range n).map fun i => if i < k then .slice (some ⟨G i, 0, none⟩) 2 2 else .slice none 0 0
theorem rowP_len (G : Nat → Nat) (n k : Nat) : (rowP G n k).length = n := by simp [rowP]
theorem rowP_zero (G : Nat → Nat) (n : Nat) : rowP G n 0 = List.replicate n (.slice none 0 0) := by
  apply List.ext_getElem?
  intro i
  by_cases hi : i < n
  · simp [rowP, hi]
  · rw [List.getElem?_eq_none (by rw [rowP_len]; omega), List.getElem?_eq_none (by simp; omega)]
theorem rowP_set (G : Nat → Nat) (n k v : Nat) (h : k < n) : (rowP G n k).set k (.slice (some ⟨v, 0, none⟩) 2 2) = rowP (fun i => if i = k then v else G i) n (k + 1) := by
  apply List.ext_getElem?
  intro i
  rw [List.getElem?_set]
  by_cases hi : i < n
  · by_cases e : k = i
    · subst e
      simp [rowP, h]
    · by_cases h2 : i < k
      · simp [rowP, hi, e, h2, Ne.symm e, show i < k + 1 by omega]
      · simp [rowP, hi, e, h2, show ¬ i < k + 1 by omega]
  · by_cases e : k = i
    · omega
    · rw [if_neg e, List.getElem?_eq_none (by rw [rowP_len]; omega), List.getElem?_eq_none (by rw [rowP_len]; omega)]
theorem l2_els (w : World) (x : Nat) : Els (w.alloc (.cells #[.int .u8 (x : Int), .int .u8 1] 59)) (some ⟨w.heap.size, 0, none⟩) 2 2 (Gp.l2 x) := by
  refine ⟨Nat.le_refl _, .inr ⟨_, rfl, by simp, fun i hi => ?_⟩⟩
  rw [cell_of_row _ _ _ _ _ _ (heap_alloc_new w _)]
  match i, hi with
  | 0, _ => rfl
  | 1, _ => rfl
theorem Els.alloc {w : World} {a : Option Addr} {n cap : Nat} {f : Nat → Nat} (h : Els w a n cap f) (o : Obj) : Els (w.alloc o) a n cap f :=
  h.below ((Below.refl _ _).alloc (Nat.le_refl _) _)

theorem alloc_set_swap (w : World) (o : Obj) {g k : Nat} (v : Value) (h : g < w.heap.size) : (w.alloc o).setCell ⟨g, k, none⟩ v = (w.setCell ⟨g, k, none⟩ v).alloc o := by
  exact World.setCell_alloc_past o g k v h
end Go.Proofs.Ytojklpahobmleaa
