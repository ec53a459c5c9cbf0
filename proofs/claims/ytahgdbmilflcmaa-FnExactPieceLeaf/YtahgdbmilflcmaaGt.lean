/- Trees over texts by plain functions: the row above a row, the root, a proof, the root that a proof leads to. No condition but what each law says; nothing of the program is named but the sum of a text. -/
import Derived.Test.YtahgdbmilflcmaaSSum
namespace Go.Proofs.Ytahgdbmilflcmaa
set_option maxRecDepth 2000
namespace Gt

/-- The sum of a byte 1 and two texts. -/
def jn (a b : ByteArray) : ByteArray := sumS ((⟨#[1]⟩ : ByteArray) ++ a ++ b)
def lf (s : ByteArray) : ByteArray := sumS ((⟨#[0]⟩ : ByteArray) ++ s)
theorem jn_size (a b : ByteArray) : (jn a b).size = 16 := sumS_size _
theorem lf_size (a : ByteArray) : (lf a).size = 16 := sumS_size _
/-- The neighbour's place. -/
def nb (i : Nat) : Nat := if i % 2 = 0 then i + 1 else i - 1
def hf (n : Nat) : Nat := (n + 1) / 2
/-- The row above a row of m. -/
def up (m : Nat) (R : Nat → ByteArray) : Nat → ByteArray := fun i => if 2 * i + 1 < m then jn (R (2 * i)) (R (2 * i + 1)) else if 2 * i < m then R (2 * i) else ByteArray.empty
theorem up_congr {m : Nat} {R R' : Nat → ByteArray} (h : ∀ i, i < m → R i = R' i) : up m R = up m R' := by
  funext i
  unfold up
  by_cases h1 : 2 * i + 1 < m
  · rw [if_pos h1, if_pos h1, h _ (by omega), h _ h1]
  · rw [if_neg h1, if_neg h1]
    by_cases h2 : 2 * i < m
    · rw [if_pos h2, if_pos h2, h _ h2]
    · rw [if_neg h2, if_neg h2]
theorem up_size {m : Nat} {R : Nat → ByteArray} (h : ∀ i, i < m → (R i).size = 16) : ∀ i, i < hf m → (up m R i).size = 16 := by
  intro i hi
  unfold hf at hi
  unfold up
  by_cases h1 : 2 * i + 1 < m
  · rw [if_pos h1]; exact jn_size _ _
  · rw [if_neg h1, if_pos (by omega)]; exact h _ (by omega)
theorem up_pad (m : Nat) (R : Nat → ByteArray) : ∀ i, hf m ≤ i → up m R i = ByteArray.empty := by
  intro i hi
  unfold hf at hi
  unfold up
  rw [if_neg (by omega), if_neg (by omega)]
/-- The root over a row. -/
def rt (n : Nat) (R : Nat → ByteArray) : ByteArray := if _h : n ≤ 1 then R 0 else rt (hf n) (up n R)
  termination_by n
  decreasing_by unfold hf; omega
theorem rt_one {n : Nat} (R : Nat → ByteArray) (h : n ≤ 1) : rt n R = R 0 := by rw [rt, dif_pos h]
theorem rt_more {n : Nat} (R : Nat → ByteArray) (h : ¬ n ≤ 1) : rt n R = rt (hf n) (up n R) := by rw [rt, dif_neg h]
theorem rt_congr {n : Nat} {R R' : Nat → ByteArray} (hn : 0 < n) (h : ∀ i, i < n → R i = R' i) : rt n R = rt n R' := by
  by_cases e : n ≤ 1
  · rw [rt_one _ e, rt_one _ e, h 0 hn]
  · rw [rt_more _ e, rt_more _ e, up_congr h]
theorem rt_size {n : Nat} : ∀ {R : Nat → ByteArray}, 0 < n → (∀ i, i < n → (R i).size = 16) → (rt n R).size = 16 := by
  induction n using Nat.strongRecOn with
  | _ n ih =>
    intro R hn h
    by_cases e : n ≤ 1
    · rw [rt_one _ e]; exact h 0 hn
    · rw [rt_more _ e]
      exact ih (hf n) (by unfold hf; omega) (by unfold hf; omega) (up_size h)
/-- How many texts a proof has. -/
def pl (i n : Nat) : Nat := if _h : n ≤ 1 then 0 else (if nb i < n then 1 else 0) + pl (i / 2) (hf n)
  termination_by n
  decreasing_by unfold hf; omega
theorem pl_one {n : Nat} (i : Nat) (h : n ≤ 1) : pl i n = 0 := by rw [pl, dif_pos h]
theorem pl_yes {n : Nat} (i : Nat) (h : ¬ n ≤ 1) (hb : nb i < n) : pl i n = 1 + pl (i / 2) (hf n) := by rw [pl, dif_neg h, if_pos hb]
theorem pl_no {n : Nat} (i : Nat) (h : ¬ n ≤ 1) (hb : ¬ nb i < n) : pl i n = pl (i / 2) (hf n) := by rw [pl, dif_neg h, if_neg hb, Nat.zero_add]
theorem pl_le (k : Nat) : ∀ (i n : Nat), n ≤ 2 ^ k → pl i n ≤ k := by
  induction k with
  | zero => intro i n h; rw [pl_one i (by simpa using h)]; exact Nat.le_refl _
  | succ k ih =>
    intro i n h
    by_cases e : n ≤ 1
    · rw [pl_one i e]; exact Nat.zero_le _
    · have h2 : hf n ≤ 2 ^ k := by
        rw [Nat.pow_succ] at h
        unfold hf
        have := Nat.one_le_two_pow (n := k)
        omega
      have := ih (i / 2) (hf n) h2
      by_cases hb : nb i < n
      · rw [pl_yes i e hb]; omega
      · rw [pl_no i e hb]; omega
/-- The texts of a proof. -/
def pf (n : Nat) (R : Nat → ByteArray) (i : Nat) (j : Nat) : ByteArray :=
  if _h : n ≤ 1 then ByteArray.empty else if nb i < n then (if j = 0 then R (nb i) else pf (hf n) (up n R) (i / 2) (j - 1)) else pf (hf n) (up n R) (i / 2) j
  termination_by n
  decreasing_by all_goals (unfold hf; omega)
theorem pf_hd {n : Nat} (R : Nat → ByteArray) (i : Nat) (h : ¬ n ≤ 1) (hb : nb i < n) : pf n R i 0 = R (nb i) := by rw [pf, dif_neg h, if_pos hb, if_pos rfl]
theorem pf_tl {n : Nat} (R : Nat → ByteArray) (i j : Nat) (h : ¬ n ≤ 1) (hb : nb i < n) : pf n R i (j + 1) = pf (hf n) (up n R) (i / 2) j := by rw [pf, dif_neg h, if_pos hb, if_neg (by omega)]; rfl
theorem pf_no {n : Nat} (R : Nat → ByteArray) (i j : Nat) (h : ¬ n ≤ 1) (hb : ¬ nb i < n) : pf n R i j = pf (hf n) (up n R) (i / 2) j := by rw [pf, dif_neg h, if_neg hb]
theorem pf_congr {n : Nat} {R R' : Nat → ByteArray} (h : ∀ i, i < n → R i = R' i) (i j : Nat) : pf n R i j = pf n R' i j := by
  by_cases e : n ≤ 1
  · rw [pf, dif_pos e, pf, dif_pos e]
  · by_cases hb : nb i < n
    · cases j with
      | zero => rw [pf_hd _ _ e hb, pf_hd _ _ e hb, h _ hb]
      | succ j => rw [pf_tl _ _ _ e hb, pf_tl _ _ _ e hb, up_congr h]
    · rw [pf_no _ _ _ e hb, pf_no _ _ _ e hb, up_congr h]
theorem pf_size {n : Nat} : ∀ {R : Nat → ByteArray} (i : Nat), i < n → (∀ i, i < n → (R i).size = 16) → ∀ j, j < pl i n → (pf n R i j).size = 16 := by
  induction n using Nat.strongRecOn with
  | _ n ih =>
    intro R i hi h j hj
    by_cases e : n ≤ 1
    · rw [pl_one i e] at hj; omega
    · have hlt : hf n < n := by unfold hf; omega
      have hi2 : i / 2 < hf n := by unfold hf; omega
      by_cases hb : nb i < n
      · rw [pl_yes i e hb] at hj
        cases j with
        | zero => rw [pf_hd _ _ e hb]; exact h _ hb
        | succ j => rw [pf_tl _ _ _ e hb]; exact ih (hf n) hlt (i / 2) hi2 (up_size h) j (by omega)
      · rw [pl_no i e hb] at hj
        rw [pf_no _ _ _ e hb]
        exact ih (hf n) hlt (i / 2) hi2 (up_size h) j hj
/-- The root that a leaf and a proof, from its text at 'c' on, lead to. -/
def pr (x : ByteArray) (i n : Nat) (P : Nat → ByteArray) (c : Nat) : ByteArray :=
  if _h : n ≤ 1 then x else if nb i < n then pr (if i % 2 = 0 then jn x (P c) else jn (P c) x) (i / 2) (hf n) P (c + 1) else pr x (i / 2) (hf n) P c
  termination_by n
  decreasing_by all_goals (unfold hf; omega)
theorem pr_one {n : Nat} (x : ByteArray) (i : Nat) (P : Nat → ByteArray) (c : Nat) (h : n ≤ 1) : pr x i n P c = x := by rw [pr, dif_pos h]
theorem pr_yes {n : Nat} (x : ByteArray) (i : Nat) (P : Nat → ByteArray) (c : Nat) (h : ¬ n ≤ 1) (hb : nb i < n) : pr x i n P c = pr (if i % 2 = 0 then jn x (P c) else jn (P c) x) (i / 2) (hf n) P (c + 1) := by rw [pr, dif_neg h, if_pos hb]
theorem pr_no {n : Nat} (x : ByteArray) (i : Nat) (P : Nat → ByteArray) (c : Nat) (h : ¬ n ≤ 1) (hb : ¬ nb i < n) : pr x i n P c = pr x (i / 2) (hf n) P c := by rw [pr, dif_neg h, if_neg hb]
theorem pr_congr {P P' : Nat → ByteArray} {n : Nat} : ∀ (x : ByteArray) (i c c' : Nat), (∀ j, j < pl i n → P (c + j) = P' (c' + j)) → pr x i n P c = pr x i n P' c' := by
  induction n using Nat.strongRecOn with
  | _ n ih =>
    intro x i c c' h
    by_cases e : n ≤ 1
    · rw [pr_one _ _ _ _ e, pr_one _ _ _ _ e]
    · have hlt : hf n < n := by unfold hf; omega
      by_cases hb : nb i < n
      · rw [pl_yes i e hb] at h
        rw [pr_yes _ _ _ _ e hb, pr_yes _ _ _ _ e hb]
        have h0 := h 0 (by omega)
        simp only [Nat.add_zero] at h0
        rw [h0]
        exact ih (hf n) hlt _ _ _ _ (fun j hj => by have := h (j + 1) (by omega); rwa [show c + (j + 1) = c + 1 + j by omega, show c' + (j + 1) = c' + 1 + j by omega] at this)
      · rw [pl_no i e hb] at h
        rw [pr_no _ _ _ _ e hb, pr_no _ _ _ _ e hb]
        exact ih (hf n) hlt _ _ _ _ h
/-- Each leaf's proof leads to the root. -/
theorem pr_pf {n : Nat} : ∀ (R : Nat → ByteArray) (i : Nat), i < n → pr (R i) i n (pf n R i) 0 = rt n R := by
  induction n using Nat.strongRecOn with
  | _ n ih =>
    intro R i hi
    by_cases e : n ≤ 1
    · rw [pr_one _ _ _ _ e, rt_one _ e, show i = 0 by omega]
    · have hlt : hf n < n := by unfold hf; omega
      have hi2 : i / 2 < hf n := by unfold hf; omega
      have hIH := ih (hf n) hlt (up n R) (i / 2) hi2
      rw [rt_more _ e, ← hIH]
      by_cases hb : nb i < n
      · rw [pr_yes _ _ _ _ e hb, pf_hd _ _ e hb]
        have hx : (if i % 2 = 0 then jn (R i) (R (nb i)) else jn (R (nb i)) (R i)) = up n R (i / 2) := by
          unfold nb at hb ⊢
          unfold up
          by_cases h2 : i % 2 = 0
          · rw [if_pos h2] at hb ⊢
            rw [if_pos h2, if_pos (by omega), show 2 * (i / 2) = i by omega]
          · rw [if_neg h2] at hb ⊢
            rw [if_neg h2, if_pos (by omega), show 2 * (i / 2) = i - 1 by omega, show i - 1 + 1 = i by omega]
        rw [hx]
        exact pr_congr _ _ _ _ (fun j _ => by rw [show 0 + 1 + j = j + 1 by omega, pf_tl _ _ _ e hb, Nat.zero_add])
      · have hx : R i = up n R (i / 2) := by
          unfold nb at hb
          unfold up
          by_cases h2 : i % 2 = 0
          · rw [if_pos h2] at hb
            rw [if_neg (by omega), if_pos (by omega), show 2 * (i / 2) = i by omega]
          · rw [if_neg h2] at hb
            omega
        rw [pr_no _ _ _ _ e hb, ← hx]
        exact pr_congr _ _ _ _ (fun j _ => by rw [Nat.zero_add, pf_no _ _ _ e hb])
theorem pr_size {P : Nat → ByteArray} {n : Nat} : ∀ (x : ByteArray) (i c : Nat), x.size = 16 → (pr x i n P c).size = 16 := by
  induction n using Nat.strongRecOn with
  | _ n ih =>
    intro x i c h
    by_cases e : n ≤ 1
    · rw [pr_one _ _ _ _ e]; exact h
    · have hlt : hf n < n := by unfold hf; omega
      by_cases hb : nb i < n
      · rw [pr_yes _ _ _ _ e hb]
        refine ih (hf n) hlt _ _ _ ?_
        by_cases h2 : i % 2 = 0
        · rw [if_pos h2]; exact jn_size _ _
        · rw [if_neg h2]; exact jn_size _ _
      · rw [pr_no _ _ _ _ e hb]; exact ih (hf n) hlt _ _ _ h
/-- The next place that is joined, or the top. -/
def nm (p s : Nat) : Nat × Nat := if _h : s ≤ 1 then (p, s) else if nb p < s then (p, s) else nm (p / 2) (hf s)
  termination_by s
  decreasing_by unfold hf; omega
theorem nm_one {s : Nat} (p : Nat) (h : s ≤ 1) : nm p s = (p, s) := by rw [nm, dif_pos h]
theorem nm_yes {s : Nat} (p : Nat) (h : ¬ s ≤ 1) (hb : nb p < s) : nm p s = (p, s) := by rw [nm, dif_neg h, if_pos hb]
theorem nm_no {s : Nat} (p : Nat) (h : ¬ s ≤ 1) (hb : ¬ nb p < s) : nm p s = nm (p / 2) (hf s) := by rw [nm, dif_neg h, if_neg hb]
theorem pl_nm {s : Nat} : ∀ (p : Nat), pl (nm p s).1 (nm p s).2 = pl p s := by
  induction s using Nat.strongRecOn with
  | _ s ih =>
    intro p
    by_cases e : s ≤ 1
    · rw [nm_one p e]
    · by_cases hb : nb p < s
      · rw [nm_yes p e hb]
      · rw [nm_no p e hb, pl_no p e hb]; exact ih (hf s) (by unfold hf; omega) _
theorem pr_nm {s : Nat} : ∀ (x : ByteArray) (p : Nat) (P : Nat → ByteArray) (c : Nat), pr x (nm p s).1 (nm p s).2 P c = pr x p s P c := by
  induction s using Nat.strongRecOn with
  | _ s ih =>
    intro x p P c
    by_cases e : s ≤ 1
    · rw [nm_one p e]
    · by_cases hb : nb p < s
      · rw [nm_yes p e hb]
      · rw [nm_no p e hb, pr_no _ _ _ _ e hb]; exact ih (hf s) (by unfold hf; omega) _ _ _ _
theorem nb_xor (i : Nat) : i ^^^ 1 = nb i := by
  unfold nb
  have h1 : (i ^^^ 1) / 2 = i / 2 := by rw [Nat.xor_div_two]; simp
  have h2 : (i ^^^ 1) % 2 = (i + 1) % 2 := by
    have h := Nat.xor_mod_two_pow (a := i) (b := 1) (n := 1)
    rw [Nat.pow_one] at h
    rw [h]
    rcases Nat.mod_two_eq_zero_or_one i with e | e
    · rw [e, show (i + 1) % 2 = 1 by omega]; decide
    · rw [e, show (i + 1) % 2 = 0 by omega]; decide
  by_cases e : i % 2 = 0
  · rw [if_pos e]; omega
  · rw [if_neg e]; omega
theorem nb_model (i : Nat) : (i : Int) + 1 - 2 * ((i : Int) % 2) = (nb i : Int) := by
  unfold nb
  by_cases e : i % 2 = 0
  · rw [if_pos e]; omega
  · rw [if_neg e]; omega
end Gt
end Go.Proofs.Ytahgdbmilflcmaa
