/- A list without the noughts at its end, in the program and in its model; byte numbers and polynomials in the model. Conditions: lists of at most 2^20 numbers. -/
import Derived.Test.YtojklpahobmleaaElsC
namespace Go.Proofs.Ytojklpahobmleaa
open Go.ChangeShapes Go.WideShapes Go.ChangeAt Go.RowKit

def nz (zs : List Int) (i : Nat) : Nat := if zs.getD i 0 = 0 then 0 else 1
def trimI (zs : List Int) : List Int := zs.take (Gp.tl (nz zs) zs.length)
theorem tl_iff {f g : Nat → Nat} (n : Nat) (h : ∀ i, i < n → (f i = 0 ↔ g i = 0)) : Gp.tl f n = Gp.tl g n := by
  induction n with
  | zero => rfl
  | succ n ih =>
    unfold Gp.tl
    rw [ih (fun i hi => h i (by omega))]
    by_cases e : f n = 0
    · rw [if_pos e, if_pos ((h n (by omega)).1 e)]
    · rw [if_neg e, if_neg (fun e' => e ((h n (by omega)).2 e'))]
theorem trimI_len (zs : List Int) : (trimI zs).length = Gp.tl (nz zs) zs.length := by
  have := Gp.tl_le (nz zs) zs.length
  unfold trimI
  rw [List.length_take]
  omega
theorem trimI_eI (f : Nat → Nat) (n : Nat) : trimI (eI f n) = eI f (Gp.tl f n) := by
  have h : Gp.tl (nz (eI f n)) n = Gp.tl f n := tl_iff n (fun i hi => by
    unfold nz
    rw [eI_getD f n i hi]
    by_cases e : f i = 0
    · simp [e]
    · rw [if_neg (by omega)]
      simp [e])
  unfold trimI
  rw [eI_len, h, eI_take f n _ (Gp.tl_le f n)]
theorem owns_takes {w : World} {B : Nat} {v : Value} {zs : List Int} {t : Nat} (ht : t ≤ zs.length) (h : w.ownsRow B 3 1 v (0 + t) ([] ++ (zs.take t).map (Value.int .i64))) : OwnI w B v (zs.take t) := by
  rw [Nat.zero_add, List.nil_append] at h
  unfold OwnI
  rw [show (zs.take t).length = t by rw [List.length_take]; omega]
  exact h

theorem one_cellI {xs : List Int} : ∀ u ∈ xs.map (Value.int .i64), u.oneCell' = true := by
  intro u hu
  obtain ⟨x, _, rfl⟩ := List.mem_map.1 hu
  rfl
end Go.Proofs.Ytojklpahobmleaa
