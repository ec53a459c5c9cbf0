/- For every input: the field's sums and products go together as they should, and every number but 0 has its inverse; the program's products, sums and quotients are the model's. No condition. -/
import Derived.Test.YtedepnlccolpoaaFrom
namespace Go.Proofs.Ytedepnlccolpoaa
open Go.ChangeShapes Go.WideShapes Go.ChangeAt Go.RowKit

theorem mulI_nat {A B : Nat} (hA : A < 256) (hB : B < 256) : mulI (A : Int) (B : Int) = ((Gf.mul A B : Nat) : Int) := by
  simp [mulI, isB_ofNat hA, isB_ofNat hB]
theorem addI_nat {A B : Nat} (hA : A < 256) (hB : B < 256) : addI (A : Int) (B : Int) = ((A ^^^ B : Nat) : Int) := by
  simp [addI, isB_ofNat hA, isB_ofNat hB]
theorem invI_nat {A : Nat} (hA : A < 256) (h0 : A ≠ 0) : invI (A : Int) = ((Gf.inv A : Nat) : Int) := by
  simp only [invI]
  rw [if_pos (by omega), Int.toNat_natCast]
theorem field1 {A B : Nat} (hA : A < 256) (hB : B < 256) : (mulI A B != mulI B A) = false := by
  rw [mulI_nat hA hB, mulI_nat hB hA, Gf.mul_comm hA hB]; simp
theorem field2 {A B C : Nat} (hA : A < 256) (hB : B < 256) (hC : C < 256) : (mulI (mulI A B) C != mulI A (mulI B C)) = false := by
  rw [mulI_nat hA hB, mulI_nat hB hC, mulI_nat (Gf.mul_lt hA hB) hC, mulI_nat hA (Gf.mul_lt hB hC), Gf.mul_assoc hA hB hC]; simp
theorem field3 {A B C : Nat} (hA : A < 256) (hB : B < 256) (hC : C < 256) : (mulI A (addI B C) != addI (mulI A B) (mulI A C)) = false := by
  rw [addI_nat hB hC, mulI_nat hA (Gf.xor_lt hB hC), mulI_nat hA hB, mulI_nat hA hC, addI_nat (Gf.mul_lt hA hB) (Gf.mul_lt hA hC), Gf.mul_xor]; simp
theorem field4 {A : Nat} (hA : A < 256) : (mulI A 1 == (A : Int)) = true := by
  have h := mulI_nat hA (show 1 < 256 by omega)
  rw [Gf.mul_one hA] at h
  have h2 : mulI (A : Int) 1 = (A : Int) := h
  rw [h2]; simp
theorem field5 {A : Nat} (hA : A < 256) : (addI A A == 0) = true := by
  rw [addI_nat hA hA, Nat.xor_self]; rfl
theorem field6 {A : Nat} (h0 : A = 0) : (invI A == -1) = true := by subst h0; rfl
theorem field7 {A : Nat} (hA : A < 256) (h0 : A ≠ 0) : (mulI A (invI A) == 1) = true := by
  rw [invI_nat hA h0, mulI_nat hA (Gf.inv_lt A), Gf.mul_inv hA h0]; rfl
theorem field8 {A B : Nat} (hA : A < 256) (hB : B < 256) (h0 : B ≠ 0) : (mulI (divI A B) B == (A : Int)) = true := by
  unfold divI
  rw [invI_nat hB h0, mulI_nat hA (Gf.inv_lt B), mulI_nat (Gf.mul_lt hA (Gf.inv_lt B)) hB, Gf.mul_assoc hA (Gf.inv_lt B) hB, Gf.mul_comm (Gf.inv_lt B) hB, Gf.mul_inv hB h0, Gf.mul_one hA]; simp

set_option maxHeartbeats 4000000 in
theorem walk_FnField (a0 : Option Addr) (len0 cap0 : Nat) (z0 : List Int) (w : World) (w0 : IsRow .u8 w a0 len0 cap0 z0) :
    Calls Try.prog 3 #[.slice a0 len0 cap0] w fun e w' => e = .returned (.bool true) ∧ Below w.heap.size w w' := by
  by_cases h0 : 1048576 < len0
  · clear w0
    have h0' : (1048576 : Int) < (len0 : Int) := by omega
    go_enter Try.func3, Try.ntmps3
    go_wp2_with (go_at_call 16; refine (big_any _ _ _ _).mono ?_; rintro e w' ⟨rfl, rfl⟩)
    go_ret
    exact ⟨rfl, Below.refl _ _⟩
  · have hc := w0.code (by omega)
    clear w0
    have h0' : ¬ (1048576 : Int) < (len0 : Int) := by omega
    go_enter Try.func3, Try.ntmps3
    go_wp2_with fail
    refine (big_any _ _ _ _).mono ?_
    rintro e w' ⟨rfl, hw⟩
    obtain rfl := hw.symm
    go_wp2_with fail
    refine (drawThree_any _ _ _ _ hc).mono ?_
    rintro e w1 ⟨A, B, C, hA, hB, hC, rfl, hb1⟩
    have hc1 := hc.below hb1
    clear hc
    go_wp2_with fail
    refine (drawMul_any _ _ _ _ hc1).mono ?_
    rintro e w2 ⟨x, y, rfl, hb2⟩
    have hbn : Below w.heap.size w w2 := below2 hb1 hb2
    clear hc1 hb1 hb2
    have f1 := field1 hA hB
    have f2 := field2 hA hB hC
    have f3 := field3 hA hB hC
    have f4 := field4 hA
    have f5 := field5 hA
    by_cases a0 : A = 0
    · have g1 : ((A : Int) == 0) = true := by simp; omega
      have f6 := field6 a0
      clear a0
      by_cases b0 : B = 0
      · have g2 : ((B : Int) == 0) = true := by simp; omega
        clear b0
        go_wp2_with (first | (go_at_call 19; refine (from_w w _ (by assumption) (mul_any _ _ _)).mono ?_; rintro e w' ⟨rfl, hbn⟩) | (go_at_call 23; refine (from_w w _ (by assumption) (div_any _ _ _)).mono ?_; rintro e w' ⟨rfl, hbn⟩) | (go_at_call 25; refine (from_w w _ (by assumption) (inv_any _ _)).mono ?_; rintro e w' ⟨rfl, hbn⟩) | (go_at_call 21; refine (add_any _ _ _).mono ?_; rintro e w' ⟨rfl, hw⟩; obtain rfl := hw.symm) | (go_at_call 20; refine (sMul_any _ _ _).mono ?_; rintro e w' ⟨rfl, hw⟩; obtain rfl := hw.symm) | (go_at_call 22; refine (sAdd_any _ _ _).mono ?_; rintro e w' ⟨rfl, hw⟩; obtain rfl := hw.symm) | (go_at_call 24; refine (sDiv_any _ _ _).mono ?_; rintro e w' ⟨rfl, hw⟩; obtain rfl := hw.symm))
        go_ret
        exact ⟨rfl, by assumption⟩
      · have g2 : ((B : Int) == 0) = false := by simp; omega
        have f8 := field8 hA hB b0
        clear b0
        go_wp2_with (first | (go_at_call 19; refine (from_w w _ (by assumption) (mul_any _ _ _)).mono ?_; rintro e w' ⟨rfl, hbn⟩) | (go_at_call 23; refine (from_w w _ (by assumption) (div_any _ _ _)).mono ?_; rintro e w' ⟨rfl, hbn⟩) | (go_at_call 25; refine (from_w w _ (by assumption) (inv_any _ _)).mono ?_; rintro e w' ⟨rfl, hbn⟩) | (go_at_call 21; refine (add_any _ _ _).mono ?_; rintro e w' ⟨rfl, hw⟩; obtain rfl := hw.symm) | (go_at_call 20; refine (sMul_any _ _ _).mono ?_; rintro e w' ⟨rfl, hw⟩; obtain rfl := hw.symm) | (go_at_call 22; refine (sAdd_any _ _ _).mono ?_; rintro e w' ⟨rfl, hw⟩; obtain rfl := hw.symm) | (go_at_call 24; refine (sDiv_any _ _ _).mono ?_; rintro e w' ⟨rfl, hw⟩; obtain rfl := hw.symm))
        go_ret
        exact ⟨rfl, by assumption⟩
    · have g1 : ((A : Int) == 0) = false := by simp; omega
      have g1' : ((A : Int) != 0) = true := by simp; omega
      have f7 := field7 hA a0
      clear a0
      by_cases b0 : B = 0
      · have g2 : ((B : Int) == 0) = true := by simp; omega
        clear b0
        go_wp2_with (first | (go_at_call 19; refine (from_w w _ (by assumption) (mul_any _ _ _)).mono ?_; rintro e w' ⟨rfl, hbn⟩) | (go_at_call 23; refine (from_w w _ (by assumption) (div_any _ _ _)).mono ?_; rintro e w' ⟨rfl, hbn⟩) | (go_at_call 25; refine (from_w w _ (by assumption) (inv_any _ _)).mono ?_; rintro e w' ⟨rfl, hbn⟩) | (go_at_call 21; refine (add_any _ _ _).mono ?_; rintro e w' ⟨rfl, hw⟩; obtain rfl := hw.symm) | (go_at_call 20; refine (sMul_any _ _ _).mono ?_; rintro e w' ⟨rfl, hw⟩; obtain rfl := hw.symm) | (go_at_call 22; refine (sAdd_any _ _ _).mono ?_; rintro e w' ⟨rfl, hw⟩; obtain rfl := hw.symm) | (go_at_call 24; refine (sDiv_any _ _ _).mono ?_; rintro e w' ⟨rfl, hw⟩; obtain rfl := hw.symm))
        go_ret
        exact ⟨rfl, by assumption⟩
      · have g2 : ((B : Int) == 0) = false := by simp; omega
        have f8 := field8 hA hB b0
        clear b0
        go_wp2_with (first | (go_at_call 19; refine (from_w w _ (by assumption) (mul_any _ _ _)).mono ?_; rintro e w' ⟨rfl, hbn⟩) | (go_at_call 23; refine (from_w w _ (by assumption) (div_any _ _ _)).mono ?_; rintro e w' ⟨rfl, hbn⟩) | (go_at_call 25; refine (from_w w _ (by assumption) (inv_any _ _)).mono ?_; rintro e w' ⟨rfl, hbn⟩) | (go_at_call 21; refine (add_any _ _ _).mono ?_; rintro e w' ⟨rfl, hw⟩; obtain rfl := hw.symm) | (go_at_call 20; refine (sMul_any _ _ _).mono ?_; rintro e w' ⟨rfl, hw⟩; obtain rfl := hw.symm) | (go_at_call 22; refine (sAdd_any _ _ _).mono ?_; rintro e w' ⟨rfl, hw⟩; obtain rfl := hw.symm) | (go_at_call 24; refine (sDiv_any _ _ _).mono ?_; rintro e w' ⟨rfl, hw⟩; obtain rfl := hw.symm))
        go_ret
        exact ⟨rfl, by assumption⟩
end Go.Proofs.Ytedepnlccolpoaa
namespace Go.Proofs.Ytedepnlccolpoaa.fnField
open Go.ChangeShapes Go.WideShapes Go.ChangeAt Go.RowKit
open Go.ChangeMaps (open_string shut_string)
set_option linter.unusedVariables false
theorem own : ownKnob Try.prog.godebug = none := by kernel_rfl
theorem laidOut : laidOutB Try.prog = true := by kernel_rfl
set_option maxRecDepth 100000 in
theorem lifted (os : Os) (started : os.Started) (H : Type) (enc : TypeId × Value → H) :
    ReturnsInHanded {} Try.checked os 3 .any (Rows.fnFieldSpec.pre6 enc Try.prog Try.f3 Rows.fnFieldRow.domain false) (Rows.fnFieldSpec.post enc Try.prog Try.f3 false true false false) := by
  refine returnsInHanded_of_change (C := Try.checked) own started (by kernel_rfl) Try.func3
    (ChangeSpec.witness6 (enc := enc) (C := Try.checked) false ⟨#[], #[.slice none 0 0], []⟩ 8 (by kernel_rfl) (by kernel_rfl) (by kernel_rfl) (by kernel_rfl)) ?_
  intro W base args ds gs before hval0 hW hcnd _
  have hval : ∀ (j : Nat) t v, Try.f3.params[j]? = some t → args[j]? = some v → Value.okWide Try.prog W .any base t v := hval0
  have hW' := hW
  obtain ⟨p, q, hA0, hV, rfl, hfz, hnd⟩ := hW
  have hA : DataW.TrodAll enc Try.prog W 0 (fun _ => true) true Try.f3.params.toList args.toList ds p := hA0
  rw [Try.params3] at hA hval
  obtain ⟨v0, vs0, d0, ds0, p0, q0, hargs, rfl, rfl, h0, r0⟩ := trodAll_cons hA
  obtain ⟨rfl, rfl, rfl⟩ := trodAll_nil r0
  obtain rfl : args = #[v0] := by cases args; simp_all
  obtain ⟨rfl, rfl⟩ := trodVars_none hV
  obtain ⟨a0, len0, cap0, rfl⟩ := okWide_slice Try.underlying22 (hval 0 22 v0 rfl rfl)
  have k0 := h0
  have lt0 : ∀ x ∈ p0, x.block < W.heap.size := by obtain ⟨m, hm⟩ := k0; exact DataW.trod_lt m _ _ _ hm
  obtain ⟨z0, w0⟩ : ∃ zs, IsRow .u8 W a0 len0 cap0 zs := by
    obtain ⟨fuel, hf⟩ := h0
    rcases open_ints Try.underlying22 Try.underlying5 (by kernel_rfl) hf with ⟨hcs, _⟩ | ⟨x, l, c, zs, hcs, _, hl, hm, hz, _, hcell, hwz⟩
    · simp [Value.cells] at hcs
      obtain ⟨rfl, rfl, rfl⟩ := hcs
      exact ⟨[], .inl ⟨rfl, rfl, rfl, rfl⟩⟩
    · simp [Value.cells] at hcs
      obtain ⟨rfl, rfl, rfl⟩ := hcs
      exact ⟨zs, .inr ⟨_, rfl, hl, hm, by simpa using hz, hcell, hwz⟩⟩
  clear hA0 hval0
  refine (walk_FnField a0 len0 cap0 z0 W w0).mono fun e W' ⟨he, bel⟩ => ?_
  subst he
  exact ⟨_, rfl, _, _, _, [], _, [], hW', trodAll_mk1 (shut_bool Try.underlying4 _), (trodAll_cons_mk (Below.trod laidOut (by kernel_rfl) (of_decide_eq_true (by kernel_rfl)) k0 bel lt0) trodAll_mk0), rfl, bel.frame _, fun h => by cases h⟩
theorem over : Rows.fnFieldRow.holds Try.pinned (OpenSpec.ofChange Rows.fnFieldSpec) :=
  OpenClaim.holds_of_wide 3 Try.f3 rfl rfl rfl rfl rfl rfl rfl ⟨rfl, rfl, rfl, rfl, rfl⟩ rfl rfl rfl rfl rfl (by kernel_rfl) Try.func3 (by kernel_rfl)
    (of_decide_eq_true (by kernel_rfl)) (by unfold Func.isWrapper; first | (rw [if_pos (by decide +kernel)]; kernel_rfl) | (rw [if_neg (by decide +kernel)]; exact ⟨rfl, rfl⟩))
    (fun os started H enc _ => lifted os started H enc)
theorem proved : Rows.FnFieldSaid := over
#print axioms proved
end Go.Proofs.Ytedepnlccolpoaa.fnField
