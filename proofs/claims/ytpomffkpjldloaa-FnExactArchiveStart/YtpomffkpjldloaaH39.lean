/- A region that draws its order, by an invariant over all orders. Lemmas over any program; no condition. -/
import Derived.Test.YtpomffkpjldloaaH37
import Derived.RegionTactic
namespace Go.Proofs.Ytpomffkpjldloaa
set_option maxRecDepth 2000
open Go.ChangeShapes Go.WideShapes Go.ChangeAt Go.RowKit

/-- How many are left of five. -/
def lft (p2 p3 p5 p6 p8 : Bool) : Nat := (if p2 then 0 else 1) + (if p3 then 0 else 1) + (if p5 then 0 else 1) + (if p6 then 0 else 1) + (if p8 then 0 else 1)
abbrev lst6 (p8 p9 : Bool) : Array Bool := #[true, true, true, true, true, true, true, true, p8, p9]
abbrev lst5 (p2 p3 p5 p6 p8 : Bool) : Array Bool := #[true, true, p2, p3, true, p5, p6, false, p8, false]
/-- Five operations of ten in any order (3 behind 2), then two in theirs. -/
theorem wpAny_five {P : Program} {ops : Array Oper} {Q : Exit → Act → World → Prop} {w0 : World} (act : Value → Value → Value → Value → Value → Act) (u20 u21 u23 u24 u6 : Value)
    (F : Bool → Bool → Bool → Bool → Bool → Value → Value → Value → Value → Value → World → Prop)
    (hR : ∀ p2 p3 p5 p6 p8, (p3 = true → p2 = true) → (Region.ready .any ops (lst5 p2 p3 p5 p6 p8)).all (fun i => (i == 2 && !p2) || (i == 3 && p2 && !p3) || (i == 5 && !p5) || (i == 6 && !p6) || (i == 8 && !p8) || (i == 7 && p2 && p3 && p5 && p6)) = true)
    (hN : ∀ p2 p3 p5 p6 p8, (p3 = true → p2 = true) → Region.ready .any ops (lst5 p2 p3 p5 p6 p8) ≠ [])
    (hF : F false false false false false u20 u21 u23 u24 u6 w0)
    (h2 : ∀ p3 p5 p6 p8 x20 x21 x23 x24 x6 W (K : Act → World → Prop), F false p3 p5 p6 p8 x20 x21 x23 x24 x6 W → (∀ y W', F true p3 p5 p6 p8 y x21 x23 x24 x6 W' → K (act y x21 x23 x24 x6) W') → wpOp P ops Q 2 K (act x20 x21 x23 x24 x6) W)
    (h3 : ∀ p5 p6 p8 x20 x21 x23 x24 x6 W (K : Act → World → Prop), F true false p5 p6 p8 x20 x21 x23 x24 x6 W → (∀ y W', F true true p5 p6 p8 x20 y x23 x24 x6 W' → K (act x20 y x23 x24 x6) W') → wpOp P ops Q 3 K (act x20 x21 x23 x24 x6) W)
    (h5 : ∀ p2 p3 p6 p8 x20 x21 x23 x24 x6 W (K : Act → World → Prop), F p2 p3 false p6 p8 x20 x21 x23 x24 x6 W → (∀ y W', F p2 p3 true p6 p8 x20 x21 y x24 x6 W' → K (act x20 x21 y x24 x6) W') → wpOp P ops Q 5 K (act x20 x21 x23 x24 x6) W)
    (h6 : ∀ p2 p3 p5 p8 x20 x21 x23 x24 x6 W (K : Act → World → Prop), F p2 p3 p5 false p8 x20 x21 x23 x24 x6 W → (∀ y W', F p2 p3 p5 true p8 x20 x21 x23 y x6 W' → K (act x20 x21 x23 y x6) W') → wpOp P ops Q 6 K (act x20 x21 x23 x24 x6) W)
    (h8 : ∀ p2 p3 p5 p6 x20 x21 x23 x24 x6 W (K : Act → World → Prop), F p2 p3 p5 p6 false x20 x21 x23 x24 x6 W → (∀ y W', F p2 p3 p5 p6 true x20 x21 x23 x24 y W' → K (act x20 x21 x23 x24 y) W') → wpOp P ops Q 8 K (act x20 x21 x23 x24 x6) W)
    (act2 : Value → Value → Value → Value → Value → Act)
    (hT : ∀ p8 k x20 x21 x23 x24 x6 W, F true true true true p8 x20 x21 x23 x24 x6 W → wpAny P .any ops Q k (lst6 p8 false) (act2 x20 x21 x23 x24 x6) W → wpAny P .any ops Q (k + 1) (lst5 true true true true p8) (act x20 x21 x23 x24 x6) W)
    (hr8 : Region.ready .any ops (lst6 false false) = [8]) (hr9 : Region.ready .any ops (lst6 true false) = [9]) (hr0 : Region.ready .any ops (lst6 true true) = [])
    (h8' : ∀ x20 x21 x23 x24 x6 W (K : Act → World → Prop), F true true true true false x20 x21 x23 x24 x6 W → (∀ y W', F true true true true true x20 x21 x23 x24 y W' → K (act2 x20 x21 x23 x24 y) W') → wpOp P ops Q 8 K (act2 x20 x21 x23 x24 x6) W)
    (h9 : ∀ x20 x21 x23 x24 x6 W, F true true true true true x20 x21 x23 x24 x6 W → wpOp P ops Q 9 (fun a W => Q .normal a W) (act2 x20 x21 x23 x24 x6) W) :
    wpAny P .any ops Q 7 (lst5 false false false false false) (act u20 u21 u23 u24 u6) w0 := by
  have fin9 : ∀ x20 x21 x23 x24 x6 W, F true true true true true x20 x21 x23 x24 x6 W → wpAny P .any ops Q 1 (lst6 true false) (act2 x20 x21 x23 x24 x6) W := fun x20 x21 x23 x24 x6 W hf =>
    wpAny_all hr9 (by simp) fun i hi => by
      obtain rfl : i = 9 := by simpa using hi
      exact wpOp_mono (fun a w hq => ⟨hr0, hq⟩) (h9 _ _ _ _ _ _ hf)
  have hE : ∀ x20 x21 x23 x24 x6 W, F true true true true true x20 x21 x23 x24 x6 W → wpAny P .any ops Q 2 (lst5 true true true true true) (act x20 x21 x23 x24 x6) W := fun x20 x21 x23 x24 x6 W hf => hT _ _ _ _ _ _ _ _ hf (fin9 _ _ _ _ _ _ hf)
  have h7 : ∀ x20 x21 x23 x24 x6 W, F true true true true false x20 x21 x23 x24 x6 W → wpAny P .any ops Q 3 (lst5 true true true true false) (act x20 x21 x23 x24 x6) W := fun x20 x21 x23 x24 x6 W hf => hT _ _ _ _ _ _ _ _ hf
    (wpAny_all hr8 (by simp) fun i hi => by
      obtain rfl : i = 8 := by simpa using hi
      exact h8' _ _ _ _ _ _ _ hf fun y W' hf' => fin9 _ _ _ _ _ _ hf')
  have key : ∀ k p2 p3 p5 p6 p8 x20 x21 x23 x24 x6 W, lft p2 p3 p5 p6 p8 = k → (p3 = true → p2 = true) → F p2 p3 p5 p6 p8 x20 x21 x23 x24 x6 W → wpAny P .any ops Q (k + 2) (lst5 p2 p3 p5 p6 p8) (act x20 x21 x23 x24 x6) W := by
    intro k
    induction k with
    | zero =>
      intro p2 p3 p5 p6 p8 x20 x21 x23 x24 x6 W hk _ hf
      cases p2 <;> cases p3 <;> cases p5 <;> cases p6 <;> cases p8 <;> first | exact hE _ _ _ _ _ _ hf | (exfalso; revert hk; simp [lft])
    | succ k ih =>
      intro p2 p3 p5 p6 p8 x20 x21 x23 x24 x6 W hk h32 hf
      by_cases h78 : p2 = true ∧ p3 = true ∧ p5 = true ∧ p6 = true ∧ p8 = false
      · obtain ⟨rfl, rfl, rfl, rfl, rfl⟩ := h78
        obtain rfl : k = 0 := by simp [lft] at hk; omega
        exact h7 _ _ _ _ _ _ hf
      have hr := List.all_eq_true.1 (hR p2 p3 p5 p6 p8 h32)
      refine ⟨fun e => absurd e (hN p2 p3 p5 p6 p8 h32), fun i hi => ?_⟩
      have hc := hr i hi
      simp only [Bool.or_eq_true, Bool.and_eq_true, beq_iff_eq, Bool.not_eq_true'] at hc
      rcases hc with ((((⟨rfl, rfl⟩ | ⟨⟨rfl, rfl⟩, rfl⟩) | ⟨rfl, rfl⟩) | ⟨rfl, rfl⟩) | ⟨rfl, rfl⟩) | ⟨⟨⟨⟨rfl, rfl⟩, rfl⟩, rfl⟩, rfl⟩
      · exact h2 _ _ _ _ _ _ _ _ _ _ _ hf fun y W' hf' => ih true p3 p5 p6 p8 _ _ _ _ _ _ (by simp [lft] at hk ⊢; omega) (fun _ => rfl) hf'
      · exact h3 _ _ _ _ _ _ _ _ _ _ hf fun y W' hf' => ih true true p5 p6 p8 _ _ _ _ _ _ (by simp [lft] at hk ⊢; omega) (fun _ => rfl) hf'
      · exact h5 _ _ _ _ _ _ _ _ _ _ _ hf fun y W' hf' => ih p2 p3 true p6 p8 _ _ _ _ _ _ (by simp [lft] at hk ⊢; omega) h32 hf'
      · exact h6 _ _ _ _ _ _ _ _ _ _ _ hf fun y W' hf' => ih p2 p3 p5 true p8 _ _ _ _ _ _ (by simp [lft] at hk ⊢; omega) h32 hf'
      · exact h8 _ _ _ _ _ _ _ _ _ _ _ hf fun y W' hf' => ih p2 p3 p5 p6 true _ _ _ _ _ _ (by simp [lft] at hk ⊢; omega) h32 hf'
      · cases p8 with
        | false => exact absurd ⟨rfl, rfl, rfl, rfl, rfl⟩ h78
        | true => simp [lft] at hk
  exact key 5 false false false false false _ _ _ _ _ _ rfl (fun h => h) hF
end Go.Proofs.Ytpomffkpjldloaa
