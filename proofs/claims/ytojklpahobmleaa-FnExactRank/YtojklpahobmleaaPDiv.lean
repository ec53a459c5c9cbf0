/- The program's division of polynomials: what the quotient and the rest are, and where they lie. Conditions: byte numbers, the divisor's last number not 0, lists of at most 2^20 numbers. -/
import Derived.Test.YtojklpahobmleaaElsC
import Derived.Test.YtojklpahobmleaaDraw
namespace Go.Proofs.Ytojklpahobmleaa
open Go.ChangeShapes Go.WideShapes Go.ChangeAt Go.RowKit

theorem add_none (b j : Nat) : (⟨b, 0, none⟩ : Addr).add j = ⟨b, j, none⟩ := by unfold Addr.add; split <;> simp_all
theorem Els.news {w : World} {b n cap : Nat} {f : Nat → Nat} (h : Els w (some ⟨b, 0, none⟩) n cap f) : ∀ j u, ((eI f n).map (Value.int .u8))[j]? = some u → w.cell? ((⟨b, 0, none⟩ : Addr).add j) = some u := by
  intro j u hu
  rw [add_none]
  by_cases hj : j < n
  · obtain ⟨b', e, hc⟩ := h.at (i := j) hj
    cases e
    rw [hc]
    simpa [eI, hj] using hu
  · rw [List.getElem?_eq_none (by simp [eI_len]; omega)] at hu
    cases hu
theorem one_cell {d : IntKind} {xs : List Int} : ∀ u ∈ xs.map (Value.int d), u.oneCell' = true := by
  intro u hu
  obtain ⟨x, _, rfl⟩ := List.mem_map.1 hu
  rfl
theorem els_of_owns {w : World} {B n : Nat} {v : Value} {f : Nat → Nat} (h : w.ownsRow B 59 1 v n ((eI f n).map (Value.int .u8))) : ∃ ar cr, v = .slice ar n cr ∧ Els w ar n cr f := by
  rcases h.2 with ⟨e, hn⟩ | ⟨g, cap, cur, e, _⟩
  · subst hn; exact ⟨none, 0, e, Els.nil _ _⟩
  · subst e
    exact ⟨_, _, rfl, OwnU.els (B := B) h⟩

end Go.Proofs.Ytojklpahobmleaa
