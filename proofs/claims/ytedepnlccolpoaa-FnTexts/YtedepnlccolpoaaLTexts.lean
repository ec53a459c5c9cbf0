/- For every input: texts are scaled and summed byte by byte, a sum taken twice gives the text again, scaling goes over sums, and what is scaled is scaled back; the program's answers are the model's. No condition. -/
import Derived.Test.YtedepnlccolpoaaFrom
import Derived.Test.YtedepnlccolpoaaDrawT
import Derived.Test.YtedepnlccolpoaaTextM
namespace Go.Proofs.Ytedepnlccolpoaa
open Go.ChangeShapes Go.WideShapes Go.ChangeAt Go.RowKit

set_option maxHeartbeats 4000000 in
theorem walk_FnTexts (a0 : Option Addr) (len0 cap0 : Nat) (z0 : List Int) (w : World) (w0 : IsRow .u8 w a0 len0 cap0 z0) :
    Calls Try.prog 5 #[.slice a0 len0 cap0] w fun e w' => e = .returned (.bool true) ∧ Below w.heap.size w w' := by
  by_cases h0 : 1048576 < len0
  · clear w0
    have h0' : (1048576 : Int) < (len0 : Int) := by omega
    go_enter Try.func5, Try.ntmps5
    go_wp2_with (go_at_call 16; refine (big_any _ _ _ _).mono ?_; rintro e w' ⟨rfl, rfl⟩)
    go_ret
    exact ⟨rfl, Below.refl _ _⟩
  · have hc := w0.code (by omega)
    clear w0
    have h0' : ¬ (1048576 : Int) < (len0 : Int) := by omega
    go_enter Try.func5, Try.ntmps5
    go_wp2_with fail
    refine (big_any _ _ _ _).mono ?_
    rintro e w' ⟨rfl, hw⟩
    obtain rfl := hw.symm
    go_wp2_with fail
    refine (drawScale_any _ _ _ _ hc).mono ?_
    rintro e w1 ⟨s, a, hs, rfl, hb1⟩
    have hc1 := hc.below hb1
    clear hc
    go_wp2_with fail
    refine (drawAdd_any _ _ _ _ hc1).mono ?_
    rintro e w2 ⟨x, y, hx, hy, rfl, hb2⟩
    have hc2 := hc1.below hb2
    clear hc1
    go_wp2_with fail
    refine (addT_any _ _ _ (by omega)).mono ?_
    rintro e w3 ⟨rfl, hb3⟩
    have hc3 := hc2.below hb3
    clear hc2
    go_wp2_with fail
    refine (drawDot_any _ _ _ _ hc3).mono ?_
    rintro e w4 ⟨g1, c1, m1, g2, c2, m2, xs, ys, hm1, hm2, rfl, i1, i2, hb4⟩
    have hbn4 : Below w.heap.size w w4 := below2 (below2 (below2 hb1 hb2) hb3) hb4
    clear hc3 hb1 hb2 hb3 hb4
    have fd := dotI_comm xs ys
    go_wp2_with fail
    refine (scale_any _ _ _ (by omega)).mono ?_
    rintro e w5 ⟨rfl, hb5⟩
    go_wp2_with fail
    refine (sScale_any _ _ _ (by omega)).mono ?_
    rintro e w6 ⟨rfl, hb6⟩
    go_wp2_with fail
    refine (sAddT_any _ _ _ (by omega)).mono ?_
    rintro e w7 ⟨rfl, hb7⟩
    have hb47 := below3 hb5 hb6 hb7
    have j1 := i1.below hb47
    have j2 := i2.below hb47
    clear i1 i2 hb5 hb6 hb7
    go_wp2_with fail
    refine (dot_any _ _ _ _ _ _ xs ys _ j1 j2 (by omega) (by omega)).mono ?_
    rintro e w8 ⟨rfl, hb8⟩
    have k1 := j1.below hb8
    have k2 := j2.below hb8
    clear j1 j2
    go_wp2_with fail
    refine (sDot_any _ _ _ _ _ _ xs ys _ k1 k2 (by omega) (by omega)).mono ?_
    rintro e w9 ⟨rfl, hb9⟩
    have l1 := k1.below hb9
    have l2 := k2.below hb9
    clear k1 k2
    go_wp2_with fail
    refine (dot_any _ _ _ _ _ _ xs ys _ l1 l2 (by omega) (by omega)).mono ?_
    rintro e w10 ⟨rfl, hb10⟩
    have n1 := l1.below hb10
    have n2 := l2.below hb10
    clear l1 l2
    go_wp2_with fail
    refine (dot_any _ _ _ _ _ _ ys xs _ n2 n1 (by omega) (by omega)).mono ?_
    rintro e w11 ⟨rfl, hb11⟩
    have hbn : Below w.heap.size w w11 := below2 (below2 (below2 (below2 (below2 hbn4 hb47) hb8) hb9) hb10) hb11
    clear n1 n2 hbn4 hb47 hb8 hb9 hb10 hb11
    by_cases hxy : x.size = y.size
    · have hne : ((x.size : Int) != (y.size : Int)) = false := by simp; omega
      have z1 : (addS x y).size ≤ 16 := Nat.le_trans (addS_le x y) hx
      have z2 : (scaleS x a).size ≤ 16 := Nat.le_trans (scaleS_le x a) hx
      have z3 : (scaleS s a).size ≤ 16 := Nat.le_trans (scaleS_le s a) hs
      have e1 := texts1 hxy
      by_cases ha : isB a = true
      · have e2 := texts2 hxy ha
        have a1 : 0 ≤ a := by simp [isB] at ha; omega
        have a2 : a ≤ 255 := by simp [isB] at ha; omega
        clear hxy
        by_cases hz : a = 0
        · have hz' : (a == 0) = true := by simpa using hz
          clear hz
          go_wp2_with (first | (go_at_call 39; refine (from_w w _ (by assumption) (scale_any _ _ _ (by omega))).mono ?_; rintro e w' ⟨rfl, hbn⟩) | (go_at_call 37; refine (from_w w _ (by assumption) (addT_any _ _ _ (by omega))).mono ?_; rintro e w' ⟨rfl, hbn⟩) | (go_at_call 25; refine (from_w w _ (by assumption) (inv_any _ _)).mono ?_; rintro e w' ⟨rfl, hbn⟩))
          go_ret
          exact ⟨rfl, by assumption⟩
        · have hz' : (a == 0) = false := by simpa using hz
          have e3 := texts3 (s := s) ha hz
          clear hz
          go_wp2_with (first | (go_at_call 39; refine (from_w w _ (by assumption) (scale_any _ _ _ (by omega))).mono ?_; rintro e w' ⟨rfl, hbn⟩) | (go_at_call 37; refine (from_w w _ (by assumption) (addT_any _ _ _ (by omega))).mono ?_; rintro e w' ⟨rfl, hbn⟩) | (go_at_call 25; refine (from_w w _ (by assumption) (inv_any _ _)).mono ?_; rintro e w' ⟨rfl, hbn⟩))
          go_ret
          exact ⟨rfl, by assumption⟩
      · have hse : scaleS s a = ByteArray.empty := by simp only [scaleS]; rw [if_neg ha]
        have hno := isB_no (by simpa using ha)
        clear hxy ha
        rcases hno with hno | hno
        · go_wp2_with (first | (go_at_call 39; refine (from_w w _ (by assumption) (scale_any _ _ _ (by omega))).mono ?_; rintro e w' ⟨rfl, hbn⟩) | (go_at_call 37; refine (from_w w _ (by assumption) (addT_any _ _ _ (by omega))).mono ?_; rintro e w' ⟨rfl, hbn⟩) | (go_at_call 25; refine (from_w w _ (by assumption) (inv_any _ _)).mono ?_; rintro e w' ⟨rfl, hbn⟩))
          go_ret
          exact ⟨rfl, by assumption⟩
        · have hno2 : ¬ a < 0 := by omega
          go_wp2_with (first | (go_at_call 39; refine (from_w w _ (by assumption) (scale_any _ _ _ (by omega))).mono ?_; rintro e w' ⟨rfl, hbn⟩) | (go_at_call 37; refine (from_w w _ (by assumption) (addT_any _ _ _ (by omega))).mono ?_; rintro e w' ⟨rfl, hbn⟩) | (go_at_call 25; refine (from_w w _ (by assumption) (inv_any _ _)).mono ?_; rintro e w' ⟨rfl, hbn⟩))
          go_ret
          exact ⟨rfl, by assumption⟩
    · have hne : ((x.size : Int) != (y.size : Int)) = true := by simp; omega
      have hae : addS x y = ByteArray.empty := by simp only [addS]; rw [if_neg hxy]
      clear hxy
      go_wp2_with (first | (go_at_call 39; refine (from_w w _ (by assumption) (scale_any _ _ _ (by omega))).mono ?_; rintro e w' ⟨rfl, hbn⟩) | (go_at_call 37; refine (from_w w _ (by assumption) (addT_any _ _ _ (by omega))).mono ?_; rintro e w' ⟨rfl, hbn⟩) | (go_at_call 25; refine (from_w w _ (by assumption) (inv_any _ _)).mono ?_; rintro e w' ⟨rfl, hbn⟩))
      go_ret
      exact ⟨rfl, by assumption⟩
end Go.Proofs.Ytedepnlccolpoaa
namespace Go.Proofs.Ytedepnlccolpoaa.fnTexts
open Go.ChangeShapes Go.WideShapes Go.ChangeAt Go.RowKit
open Go.ChangeMaps (open_string shut_string)
set_option linter.unusedVariables false
theorem own : ownKnob Try.prog.godebug = none := by kernel_rfl
theorem laidOut : laidOutB Try.prog = true := by kernel_rfl
set_option maxRecDepth 100000 in
theorem lifted (os : Os) (started : os.Started) (H : Type) (enc : TypeId × Value → H) :
    ReturnsInHanded {} Try.checked os 5 .any (Rows.fnTextsSpec.pre6 enc Try.prog Try.f5 Rows.fnTextsRow.domain false) (Rows.fnTextsSpec.post enc Try.prog Try.f5 false true false false) := by
  refine returnsInHanded_of_change (C := Try.checked) own started (by kernel_rfl) Try.func5
    (ChangeSpec.witness6 (enc := enc) (C := Try.checked) false ⟨#[], #[.slice none 0 0], []⟩ 8 (by kernel_rfl) (by kernel_rfl) (by kernel_rfl) (by kernel_rfl)) ?_
  intro W base args ds gs before hval0 hW hcnd _
  have hval : ∀ (j : Nat) t v, Try.f5.params[j]? = some t → args[j]? = some v → Value.okWide Try.prog W .any base t v := hval0
  have hW' := hW
  obtain ⟨p, q, hA0, hV, rfl, hfz, hnd⟩ := hW
  have hA : DataW.TrodAll enc Try.prog W 0 (fun _ => true) true Try.f5.params.toList args.toList ds p := hA0
  rw [Try.params5] at hA hval
  obtain ⟨v0, vs0, d0, ds0, p0, q0, hargs, rfl, rfl, h0, r0⟩ := trodAll_cons hA
  obtain ⟨rfl, rfl, rfl⟩ := trodAll_nil r0
  obtain rfl : args = #[v0] := by cases args; simp_all
  obtain ⟨rfl, rfl⟩ := trodVars_none hV
  obtain ⟨a0, len0, cap0, rfl⟩ := okWide_slice Try.underlying22 (hval 0 22 v0 rfl rfl)
  have k0 := h0
  have lt0 : ∀ x ∈ p0, x.block < W.heap.size := by obtain ⟨m, hm⟩ := k0; exact DataW.trod_lt m _ _ _ hm
  obtain ⟨z0, w0⟩ : ∃ zs, IsRow .u8 W a0 len0 cap0 zs := by
    obtain ⟨fuel, hf⟩ := h0
    rcases open_ints Try.underlying22 Try.underlying5 (by kernel_rfl) hf with ⟨hcs, _⟩ | ⟨x, l, c, zs, hcs, _, hl, hm, hz, _, hcell, hwz⟩
    · simp [Value.cells] at hcs
      obtain ⟨rfl, rfl, rfl⟩ := hcs
      exact ⟨[], .inl ⟨rfl, rfl, rfl, rfl⟩⟩
    · simp [Value.cells] at hcs
      obtain ⟨rfl, rfl, rfl⟩ := hcs
      exact ⟨zs, .inr ⟨_, rfl, hl, hm, by simpa using hz, hcell, hwz⟩⟩
  clear hA0 hval0
  refine (walk_FnTexts a0 len0 cap0 z0 W w0).mono fun e W' ⟨he, bel⟩ => ?_
  subst he
  exact ⟨_, rfl, _, _, _, [], _, [], hW', trodAll_mk1 (shut_bool Try.underlying4 _), (trodAll_cons_mk (Below.trod laidOut (by kernel_rfl) (of_decide_eq_true (by kernel_rfl)) k0 bel lt0) trodAll_mk0), rfl, bel.frame _, fun h => by cases h⟩
theorem over : Rows.fnTextsRow.holds Try.pinned (OpenSpec.ofChange Rows.fnTextsSpec) :=
  OpenClaim.holds_of_wide 5 Try.f5 rfl rfl rfl rfl rfl rfl rfl ⟨rfl, rfl, rfl, rfl, rfl⟩ rfl rfl rfl rfl rfl (by kernel_rfl) Try.func5 (by kernel_rfl)
    (of_decide_eq_true (by kernel_rfl)) (by unfold Func.isWrapper; first | (rw [if_pos (by decide +kernel)]; kernel_rfl) | (rw [if_neg (by decide +kernel)]; exact ⟨rfl, rfl⟩))
    (fun os started H enc _ => lifted os started H enc)
theorem proved : Rows.FnTextsSaid := over
#print axioms proved
end Go.Proofs.Ytedepnlccolpoaa.fnTexts
