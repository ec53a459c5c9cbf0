/- The program's polynomial through places: what it answers at any lists of at most 2^20 numbers, in memory of its own; nothing that was there turns. -/
import Derived.Test.YtdnddimkgddooaaDoorPImplB
namespace Go.Proofs.YtdnddimkgddooaaDoor
open Go.ChangeShapes Go.WideShapes Go.ChangeAt Go.RowKit

/-- No two of the first 'n' are alike. -/
def dis (x : Nat → Nat) (n : Nat) : Bool := (List.range n).all fun i => (List.range i).all fun k => x i != x k
theorem dis_of {x : Nat → Nat} {n : Nat} (h : dis x n = true) : ∀ i j, i < n → j < n → i ≠ j → x i ≠ x j := by
  have h1 : ∀ i k, i < n → k < i → x i ≠ x k := by
    intro i k hi hk
    have h2 := List.all_eq_true.1 (List.all_eq_true.1 h i (List.mem_range.2 hi)) k (List.mem_range.2 hk)
    simpa using h2
  intro i j hi hj hij
  rcases Nat.lt_trichotomy i j with h2 | h2 | h2
  · exact fun e => h1 j i hj h2 e.symm
  · exact absurd h2 hij
  · exact h1 i j hi h2
theorem dis_no {x : Nat → Nat} {n i k : Nat} (hi : i < n) (hk : k < i) (e : x i = x k) : dis x n = false := by
  cases h : dis x n with
  | false => rfl
  | true => exact absurd e (dis_of h i k hi (by omega) (by omega))
theorem dis_yes {x : Nat → Nat} {n : Nat} (h : ∀ i k, i < n → k < i → x i ≠ x k) : dis x n = true := by
  unfold dis
  rw [List.all_eq_true]
  intro i hi
  rw [List.all_eq_true]
  intro k hk
  simpa using h i k (List.mem_range.1 hi) (List.mem_range.1 hk)

def interP (xs ys : List Int) : List Int × Bool :=
  if xs.length = ys.length ∧ xs.length ≤ 40 ∧ xs.all isB = true ∧ ys.all isB = true ∧ dis (coP xs) xs.length = true then
    (eI (Gp.th (coP xs) (coP ys) xs.length xs.length) (Gp.tl (Gp.th (coP xs) (coP ys) xs.length xs.length) xs.length), true) else ([], false)
theorem interP_len (xs ys : List Int) : (interP xs ys).1.length ≤ 1048576 := by
  unfold interP
  split
  · rename_i h
    show (eI _ _).length ≤ _
    rw [eI_len]
    exact Nat.le_trans (Gp.tl_le _ _) (by omega)
  · exact Nat.zero_le _
theorem bytes_at {zs : List Int} (h : zs.all isB = true) : (∀ i, i < zs.length → isB (zs.getD i 0) = true) ∧ (∀ i, coP zs i < 256) ∧ zs = eI (coP zs) zs.length := by
  have h4 : ∀ i, i < zs.length → isB (zs.getD i 0) = true := fun i hi => List.all_eq_true.1 h _ (by simp [List.getD, hi])
  refine ⟨h4, fun i => ?_, eI_ext rfl (fun i hi => ?_)⟩
  · by_cases hi : i < zs.length
    · obtain ⟨X, hX, hx⟩ := isB_nat (h4 i hi)
      unfold coP
      rw [hx]
      simpa using hX
    · unfold coP
      simp [List.getD, List.getElem?_eq_none (show zs.length ≤ i by omega)]
  · obtain ⟨X, hX, hx⟩ := isB_nat (h4 i hi)
    unfold coP
    rw [hx]
    simp
theorem bytes_no {zs : List Int} (h : zs.all isB = false) : ∃ i, i < zs.length ∧ isB (zs.getD i 0) = false := by
  rw [List.all_eq_false] at h
  obtain ⟨x, hx, hb⟩ := h
  obtain ⟨i, hi, rfl⟩ := List.mem_iff_getElem.1 hx
  exact ⟨i, hi, by simpa [List.getD, hi] using hb⟩
theorem pf_roots (x : Nat → Nat) (k : Nat) : pf (fun i => Gp.l2 (x i)) (fun _ => 2) k = (Gp.pr x k, k + 1) := by
  induction k with
  | zero => rfl
  | succ k ih =>
    rw [pf_succ, ih]
    have e : Gp.cv (Gp.pr x k) (Gp.l2 (x k)) (k + 1) = Gp.pr x (k + 1) := by
      funext i
      exact Gp.cv_lin (Gp.pr_pol x k) i
    show (Gp.cv (Gp.pr x k) (Gp.l2 (x k)) (k + 1), Gp.tl (Gp.cv (Gp.pr x k) (Gp.l2 (x k)) (k + 1)) (k + 1 + 2)) = _
    rw [e, Gp.tl_is (Gp.pr x (k + 1)) (k + 1 + 2) (k + 1 + 1) (by omega) (fun i h1 _ => (Gp.pr_pol x (k + 1)).2 i h1) (.inr (by
      show Gp.pr x (k + 1) (k + 1) ≠ 0
      rw [Gp.pr_top]
      omega))]
theorem others {x : Nat → Nat} {n c : Nat} (hc : c < n) (i : Nat) : Gp.dq (Gp.pr x n) (Gp.l2 (x c)) (Gf.inv (Gp.l2 (x c) (2 - 1))) 2 (n + 1 - 2 + 1) (n + 1 - 2 + 1) i = Gp.po x c n i := by
  have hp := Gp.po_pol x c n
  have e : Gp.pl c n = n := by unfold Gp.pl; rw [if_pos hc]
  rw [e] at hp
  have e1 : Gp.l2 (x c) (2 - 1) = 1 := rfl
  have e2 : Gp.m (Gp.l2 (x c) (2 - 1)) (Gf.inv 1) = 1 := by rw [e1]; exact Gp.m_inv (by omega) (by omega)
  rw [show n + 1 - 2 + 1 = n by omega, e1]
  refine Gp.dq_exact _ _ _ 2 n (Gp.po x c n) hp (by omega) (fun i hi => by unfold Gp.l2; rw [if_neg (by omega), if_neg (by omega)]) e2 (fun i => ?_) i
  rw [Gp.cv_lin hp, ← Gp.po_in x c n hc]
theorem height {x : Nat → Nat} {n c : Nat} (hc : c < n) : Gp.ev (Gp.po x c n) (x c) n = Gp.un x c n := by
  have hp := Gp.po_pol x c n
  have e : Gp.pl c n = n := by unfold Gp.pl; rw [if_pos hc]
  have h := Gp.ps_po x c n
  rw [e] at h hp
  rw [Gp.ev_ps hp.1, h]
theorem th_step {x y : Nat → Nat} {n c H : Nat} (hc : c < n) (hy : y c < 256) (hH : Gp.un x c n = H) (i : Nat) : onTop (Gp.th x y n c) (Gp.po x c n) (Gf.mul (y c) (Gf.inv H)) 0 n i = Gp.th x y n (c + 1) i := by
  have hp := Gp.po_pol x c n
  have e : Gp.pl c n = n := by unfold Gp.pl; rw [if_pos hc]
  rw [e] at hp
  subst hH
  rw [onTop_sh hp.2, Gp.m_nat hy (Gf.inv_lt _), show Gp.sh 0 (Gp.po x c n) i = Gp.po x c n i by unfold Gp.sh; rw [if_pos (Nat.zero_le _), Nat.sub_zero]]
  rfl

theorem interP_no {xs ys : List Int} (h : ¬ (xs.length = ys.length ∧ xs.length ≤ 40 ∧ xs.all isB = true ∧ ys.all isB = true)) : interP xs ys = ([], false) := by
  unfold interP
  rw [if_neg (fun h' => h ⟨h'.1, h'.2.1, h'.2.2.1, h'.2.2.2.1⟩)]
end Go.Proofs.YtdnddimkgddooaaDoor
