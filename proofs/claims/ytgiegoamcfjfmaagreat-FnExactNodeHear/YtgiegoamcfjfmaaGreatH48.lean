/- What a node hears, in the model, whatever the node. Conditions: lists and texts of at most 2^20. -/
import Derived.Test.YtgiegoamcfjfmaaGreatH47
namespace Go.Proofs.YtgiegoamcfjfmaaGreat
set_option maxRecDepth 2000
open Go.ChangeShapes Go.WideShapes Go.ChangeAt Go.RowKit

theorem mind_place {n : Nat} {S : Nat → Sl} {r : ByteArray} (hn : n ≤ 40) : (n < 40 ∨ 0 ≤ plX S r n) ↔ plN S r n < 40 := by
  unfold plX plN
  cases e : plc S r n with
  | none => simp
  | some x =>
    obtain ⟨_, h, _, _⟩ := plF_some e
    have hx : x < 40 := by omega
    exact ⟨fun _ => hx, fun _ => .inr (Int.natCast_nonneg x)⟩
theorem sNodeHear_any (id f : Int) (a : Option Addr) (n cap : Nat) (S : Nat → Sl) (y : Sy) (a9 : Option Addr) (c9 : Nat) (w : World) (hT : Rd w (slsD n S) (.slice a n cap)) (h9 : TxtAt w a9 y.p.m y.p.S) (hB : NhB n S y) :
    Calls Tryz.prog 11 #[ndV id f (.slice a n cap), syV y (.slice a9 y.p.m c9)] w fun e w' => NhR w w' id f (nhN id f n S y) (nhS id f n S y) (nhM id f n S y) (nhY id f n S y) e := by
  cases e1 : ndB id f n S with
  | false =>
    have hb : nhB id f n S y = false := by unfold nhB; rw [e1]; rfl
    simp only [nhN, nhS, nhM, nhY, hb]
    exact sNodeHear_no1 id f a n cap S y a9 c9 w hT hB e1
  | true =>
    have hP := ndP_of e1
    have hf := seB_f hP.1
    cases e2 : mindB id f n S y with
    | false =>
      have hM : ¬ MindP id f n S y := fun k => by
        have : mindB id f n S y = true := by unfold mindB; exact @decide_eq_true _ (Classical.propDecidable _) k
        rw [this] at e2; cases e2
      have hb : nhB id f n S y = false := by unfold nhB; rw [e1, e2]; rfl
      simp only [nhN, nhS, nhM, nhY, hb]
      by_cases h2 : y.t = id
      case neg => exact sNodeHear_no2 id f a n cap S y a9 c9 w hT hB e1 hf h2
      by_cases h3 : -1 ≤ y.f ∧ y.f ≤ 3 * f
      case neg => exact sNodeHear_no3 id f a n cap S y a9 c9 w hT hB e1 hf h2 h3
      by_cases h4 : 0 ≤ y.k ∧ y.k ≤ 2
      case neg => exact sNodeHear_no4 id f a n cap S y a9 c9 w hT hB e1 hf h2 h3 h4
      by_cases h5 : y.r.size = 16
      case neg => exact sNodeHear_no5 id f a n cap S y a9 c9 w hT hB e1 hf h2 h3 h4 h5
      by_cases h6 : 40 ≤ plN S y.r n
      case pos => exact sNodeHear_no6 id f a n cap S y a9 c9 w hT hB e1 hf h2 h3 h4 h5 h6
      exact absurd ⟨h2, by omega, h4, h5, (mind_place hP.2.1).2 (by omega)⟩ hM
    | true =>
      have hM := mindP_of e2
      have hb : nhB id f n S y = true := by unfold nhB; rw [e1, e2]; rfl
      simp only [nhN, nhS, nhM, nhY, hb, if_true]
      exact sNodeHear_yes id f a n cap S y a9 c9 w hT hB e1 hf hM.1 (by have := hM.2.1; omega) hM.2.2.1 hM.2.2.2.1 ((mind_place hP.2.1).1 hM.2.2.2.2) h9
end Go.Proofs.YtgiegoamcfjfmaaGreat
