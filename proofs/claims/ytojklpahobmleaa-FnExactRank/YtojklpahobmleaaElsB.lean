/- The program's small functions over polynomials: reading, trimming, numbers, putting one scaled on top of another, values. Conditions: lists of at most 2^20 numbers, byte numbers. -/
import Derived.Test.YtojklpahobmleaaEls
namespace Go.Proofs.Ytojklpahobmleaa
open Go.ChangeShapes Go.WideShapes Go.ChangeAt Go.RowKit

/-- A polynomial in a list. -/
def okB (zs : List Int) : Bool := decide (zs.length ≤ 40) && (decide (zs.length = 0) || decide (zs.getD (zs.length - 1) 0 ≠ 0)) && zs.all isB
theorem okB_parts {zs : List Int} (h : okB zs = true) : zs.length ≤ 40 ∧ (zs.length = 0 ∨ coP zs (zs.length - 1) ≠ 0) ∧ Gp.Pol (coP zs) zs.length ∧ zs = eI (coP zs) zs.length ∧ ∀ i, i < zs.length → isB (zs.getD i 0) = true := by
  simp only [okB, Bool.and_eq_true, decide_eq_true_eq, Bool.or_eq_true, List.all_eq_true] at h
  obtain ⟨⟨h1, h2⟩, h3⟩ := h
  have h4 : ∀ i, i < zs.length → isB (zs.getD i 0) = true := fun i hi => h3 _ (by simp [List.getD, hi])
  have h5 : ∀ i, i < zs.length → zs.getD i 0 = ((coP zs i : Nat) : Int) := fun i hi => by
    obtain ⟨X, hX, hx⟩ := isB_nat (h4 i hi)
    unfold coP
    rw [hx]
    simp
  refine ⟨h1, ?_, ⟨fun i => ?_, fun i hi => ?_⟩, eI_ext rfl h5, h4⟩
  · rcases h2 with h2 | h2
    · exact .inl h2
    · by_cases e : zs.length = 0
      · exact .inl e
      · right
        intro h
        have h6 := h5 (zs.length - 1) (by omega)
        rw [h] at h6
        exact h2 h6
  · by_cases hi : i < zs.length
    · obtain ⟨X, hX, hx⟩ := isB_nat (h4 i hi)
      unfold coP
      rw [hx]
      simpa using hX
    · unfold coP
      simp [List.getD, List.getElem?_eq_none (show zs.length ≤ i by omega)]
  · unfold coP
    simp [List.getD, List.getElem?_eq_none hi]
theorem okB_no {zs : List Int} (h : okB zs = false) : 40 < zs.length ∨ (zs.length ≤ 40 ∧ 0 < zs.length ∧ zs.getD (zs.length - 1) 0 = 0) ∨ (zs.length ≤ 40 ∧ (zs.length = 0 ∨ zs.getD (zs.length - 1) 0 ≠ 0) ∧ ∃ i, i < zs.length ∧ isB (zs.getD i 0) = false) := by
  by_cases h1 : zs.length ≤ 40
  · by_cases h2 : zs.length = 0 ∨ zs.getD (zs.length - 1) 0 ≠ 0
    · right; right
      refine ⟨h1, h2, ?_⟩
      have h3 : zs.all isB = false := by
        unfold okB at h
        rw [decide_eq_true h1, Bool.true_and] at h
        have e : (decide (zs.length = 0) || decide (zs.getD (zs.length - 1) 0 ≠ 0)) = true := by simpa using h2
        rw [e, Bool.true_and] at h
        exact h
      rw [List.all_eq_false] at h3
      obtain ⟨x, hx, hb⟩ := h3
      obtain ⟨i, hi, rfl⟩ := List.mem_iff_getElem.1 hx
      exact ⟨i, hi, by simpa [List.getD, hi] using hb⟩
    · right; left
      refine ⟨h1, by omega, ?_⟩
      by_cases e : zs.getD (zs.length - 1) 0 = 0
      · exact e
      · exact absurd (.inr e) h2
  · left; omega

end Go.Proofs.Ytojklpahobmleaa
