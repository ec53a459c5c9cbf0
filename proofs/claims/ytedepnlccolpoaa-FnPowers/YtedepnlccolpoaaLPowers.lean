/- For every input: powers go together as they should, and each number but 0 is a power of two, of one number below 255; the program's powers, powers of two and logarithms are the model's. No condition. -/
import Derived.Test.YtedepnlccolpoaaFrom
namespace Go.Proofs.Ytedepnlccolpoaa
open Go.ChangeShapes Go.WideShapes Go.ChangeAt Go.RowKit

theorem powers1 {a n : Int} (h : 0 ≤ powI a n) : isB a = true ∧ 0 ≤ n ∧ n ≤ 1000000 := by
  by_cases hh : isB a = true ∧ 0 ≤ n ∧ n ≤ 1000000
  · exact hh
  · simp only [powI] at h
    rw [if_neg hh] at h
    omega
theorem powers2 {a n : Int} (h : isB a = true ∧ 0 ≤ n ∧ n ≤ 1000000) (h1 : 0 < n) : (mulI (powI a (n - 1)) a != powI a n) = false := by
  obtain ⟨A, hA, rfl⟩ := isB_nat h.1
  obtain ⟨M, rfl⟩ : ∃ M : Nat, n = ((M + 1 : Nat) : Int) := ⟨(n - 1).toNat, by omega⟩
  have e1 : powI (A : Int) (((M + 1 : Nat) : Int) - 1) = ((Gf.gpow A M : Nat) : Int) := by
    rw [show (((M + 1 : Nat) : Int) - 1) = (M : Int) by omega]
    simp only [powI]
    rw [if_pos ⟨h.1, by omega, by omega⟩]
    simp
  have e2 : powI (A : Int) ((M + 1 : Nat) : Int) = ((Gf.gpow A (M + 1) : Nat) : Int) := by
    simp only [powI]
    rw [if_pos ⟨h.1, by omega, by omega⟩]
    simp only [Int.toNat_natCast]
  have e3 : mulI ((Gf.gpow A M : Nat) : Int) (A : Int) = ((Gf.mul (Gf.gpow A M) A : Nat) : Int) := by
    simp [mulI, isB_ofNat hA, isB_ofNat (Gf.gpow_lt A M)]
  rw [e1, e2, e3, Gf.gpow_succ hA]
  simp
theorem powers3 {x : Int} (h : 1 ≤ x ∧ x ≤ 255) : -1 ≤ logI x ∧ logI x < 255 ∧ 0 ≤ logI x ∧ (expI (logI x) == x) = true := by
  have h1 := Gf.lg_lt (a := x.toNat) (by omega) (by omega)
  have h2 := Gf.ex_lg (a := x.toNat) (by omega) (by omega)
  have e : logI x = ((Gf.lg x.toNat : Nat) : Int) := by simp only [logI]; rw [if_pos h]
  rw [e]
  refine ⟨by omega, by omega, by omega, ?_⟩
  rw [expI_nat h1, h2]
  simp; omega
theorem powers4 (k : Int) : (expI (logI (expI k)) != expI k) = false := by
  have hr : (k % 255).toNat < 255 := by omega
  have h1 := Gf.ex_lt (k % 255).toNat
  have h2 := Gf.ex_ne hr
  have h := (powers3 (x := expI k) (by unfold expI; omega)).2.2.2
  simp at h
  rw [h]
  simp

set_option maxHeartbeats 4000000 in
theorem walk_FnPowers (a0 : Option Addr) (len0 cap0 : Nat) (z0 : List Int) (w : World) (w0 : IsRow .u8 w a0 len0 cap0 z0) :
    Calls Try.prog 4 #[.slice a0 len0 cap0] w fun e w' => e = .returned (.bool true) ∧ Below w.heap.size w w' := by
  by_cases h0 : 1048576 < len0
  · clear w0
    have h0' : (1048576 : Int) < (len0 : Int) := by omega
    go_enter Try.func4, Try.ntmps4
    go_wp2_with (go_at_call 16; refine (big_any _ _ _ _).mono ?_; rintro e w' ⟨rfl, rfl⟩)
    go_ret
    exact ⟨rfl, Below.refl _ _⟩
  · have hc := w0.code (by omega)
    clear w0
    have h0' : ¬ (1048576 : Int) < (len0 : Int) := by omega
    go_enter Try.func4, Try.ntmps4
    go_wp2_with fail
    refine (big_any _ _ _ _).mono ?_
    rintro e w' ⟨rfl, hw⟩
    obtain rfl := hw.symm
    go_wp2_with fail
    refine (drawPow_any _ _ _ _ hc).mono ?_
    rintro e w1 ⟨a, n, rfl, hb1⟩
    have hc1 := hc.below hb1
    clear hc
    go_wp2_with fail
    refine (pow_any _ _ _).mono ?_
    rintro e w2 ⟨rfl, hb2⟩
    have hc2 := hc1.below hb2
    clear hc1
    go_wp2_with fail
    refine (drawExp_any _ _ _ _ hc2).mono ?_
    rintro e w3 ⟨k, rfl, hb3⟩
    have hc3 := hc2.below hb3
    clear hc2
    go_wp2_with fail
    refine (drawLog_any _ _ _ _ hc3).mono ?_
    rintro e w4 ⟨x, rfl, hb4⟩
    have hbn : Below w.heap.size w w4 := below2 (below2 (below2 hb1 hb2) hb3) hb4
    clear hc3 hb1 hb2 hb3 hb4
    have f4 := powers4 k
    by_cases hp : 0 ≤ powI a n
    · have hr := powers1 hp
      by_cases hn : 0 < n
      · have f2 := powers2 hr hn
        have hn2 := hr.2.2
        clear hr
        by_cases hx : 1 ≤ x ∧ x ≤ 255
        · obtain ⟨f5, f6, f7, f8⟩ := powers3 hx
          have x0 : 0 < x := by omega
          have x1 : x < 256 := by omega
          clear hx
          go_wp2_with (first | (go_at_call 19; refine (from_w w _ (by assumption) (mul_any _ _ _)).mono ?_; rintro e w' ⟨rfl, hbn⟩) | (go_at_call 27; refine (from_w w _ (by assumption) (pow_any _ _ _)).mono ?_; rintro e w' ⟨rfl, hbn⟩) | (go_at_call 31; refine (from_w w _ (by assumption) (exp_any _ _)).mono ?_; rintro e w' ⟨rfl, hbn⟩) | (go_at_call 33; refine (from_w w _ (by assumption) (logf_any _ _)).mono ?_; rintro e w' ⟨rfl, hbn⟩) | (go_at_call 30; refine (sPow_any _ _ _).mono ?_; rintro e w' ⟨rfl, hw⟩; obtain rfl := hw.symm) | (go_at_call 32; refine (sExp_any _ _).mono ?_; rintro e w' ⟨rfl, hw⟩; obtain rfl := hw.symm) | (go_at_call 34; refine (sLog_any _ _).mono ?_; rintro e w' ⟨rfl, hw⟩; obtain rfl := hw.symm))
          go_ret
          exact ⟨rfl, by assumption⟩
        · have hl : logI x = -1 := by simp only [logI]; rw [if_neg hx]
          by_cases x0 : 0 < x
          · have x1 : ¬ x < 256 := by omega
            clear hx
            go_wp2_with (first | (go_at_call 19; refine (from_w w _ (by assumption) (mul_any _ _ _)).mono ?_; rintro e w' ⟨rfl, hbn⟩) | (go_at_call 27; refine (from_w w _ (by assumption) (pow_any _ _ _)).mono ?_; rintro e w' ⟨rfl, hbn⟩) | (go_at_call 31; refine (from_w w _ (by assumption) (exp_any _ _)).mono ?_; rintro e w' ⟨rfl, hbn⟩) | (go_at_call 33; refine (from_w w _ (by assumption) (logf_any _ _)).mono ?_; rintro e w' ⟨rfl, hbn⟩) | (go_at_call 30; refine (sPow_any _ _ _).mono ?_; rintro e w' ⟨rfl, hw⟩; obtain rfl := hw.symm) | (go_at_call 32; refine (sExp_any _ _).mono ?_; rintro e w' ⟨rfl, hw⟩; obtain rfl := hw.symm) | (go_at_call 34; refine (sLog_any _ _).mono ?_; rintro e w' ⟨rfl, hw⟩; obtain rfl := hw.symm))
            go_ret
            exact ⟨ret_bool (by simp; omega), by assumption⟩
          · clear hx
            go_wp2_with (first | (go_at_call 19; refine (from_w w _ (by assumption) (mul_any _ _ _)).mono ?_; rintro e w' ⟨rfl, hbn⟩) | (go_at_call 27; refine (from_w w _ (by assumption) (pow_any _ _ _)).mono ?_; rintro e w' ⟨rfl, hbn⟩) | (go_at_call 31; refine (from_w w _ (by assumption) (exp_any _ _)).mono ?_; rintro e w' ⟨rfl, hbn⟩) | (go_at_call 33; refine (from_w w _ (by assumption) (logf_any _ _)).mono ?_; rintro e w' ⟨rfl, hbn⟩) | (go_at_call 30; refine (sPow_any _ _ _).mono ?_; rintro e w' ⟨rfl, hw⟩; obtain rfl := hw.symm) | (go_at_call 32; refine (sExp_any _ _).mono ?_; rintro e w' ⟨rfl, hw⟩; obtain rfl := hw.symm) | (go_at_call 34; refine (sLog_any _ _).mono ?_; rintro e w' ⟨rfl, hw⟩; obtain rfl := hw.symm))
            go_ret
            exact ⟨rfl, by assumption⟩
      · clear hr
        by_cases hx : 1 ≤ x ∧ x ≤ 255
        · obtain ⟨f5, f6, f7, f8⟩ := powers3 hx
          have x0 : 0 < x := by omega
          have x1 : x < 256 := by omega
          clear hx
          go_wp2_with (first | (go_at_call 19; refine (from_w w _ (by assumption) (mul_any _ _ _)).mono ?_; rintro e w' ⟨rfl, hbn⟩) | (go_at_call 27; refine (from_w w _ (by assumption) (pow_any _ _ _)).mono ?_; rintro e w' ⟨rfl, hbn⟩) | (go_at_call 31; refine (from_w w _ (by assumption) (exp_any _ _)).mono ?_; rintro e w' ⟨rfl, hbn⟩) | (go_at_call 33; refine (from_w w _ (by assumption) (logf_any _ _)).mono ?_; rintro e w' ⟨rfl, hbn⟩) | (go_at_call 30; refine (sPow_any _ _ _).mono ?_; rintro e w' ⟨rfl, hw⟩; obtain rfl := hw.symm) | (go_at_call 32; refine (sExp_any _ _).mono ?_; rintro e w' ⟨rfl, hw⟩; obtain rfl := hw.symm) | (go_at_call 34; refine (sLog_any _ _).mono ?_; rintro e w' ⟨rfl, hw⟩; obtain rfl := hw.symm))
          go_ret
          exact ⟨rfl, by assumption⟩
        · have hl : logI x = -1 := by simp only [logI]; rw [if_neg hx]
          by_cases x0 : 0 < x
          · have x1 : ¬ x < 256 := by omega
            clear hx
            go_wp2_with (first | (go_at_call 19; refine (from_w w _ (by assumption) (mul_any _ _ _)).mono ?_; rintro e w' ⟨rfl, hbn⟩) | (go_at_call 27; refine (from_w w _ (by assumption) (pow_any _ _ _)).mono ?_; rintro e w' ⟨rfl, hbn⟩) | (go_at_call 31; refine (from_w w _ (by assumption) (exp_any _ _)).mono ?_; rintro e w' ⟨rfl, hbn⟩) | (go_at_call 33; refine (from_w w _ (by assumption) (logf_any _ _)).mono ?_; rintro e w' ⟨rfl, hbn⟩) | (go_at_call 30; refine (sPow_any _ _ _).mono ?_; rintro e w' ⟨rfl, hw⟩; obtain rfl := hw.symm) | (go_at_call 32; refine (sExp_any _ _).mono ?_; rintro e w' ⟨rfl, hw⟩; obtain rfl := hw.symm) | (go_at_call 34; refine (sLog_any _ _).mono ?_; rintro e w' ⟨rfl, hw⟩; obtain rfl := hw.symm))
            go_ret
            exact ⟨ret_bool (by simp; omega), by assumption⟩
          · clear hx
            go_wp2_with (first | (go_at_call 19; refine (from_w w _ (by assumption) (mul_any _ _ _)).mono ?_; rintro e w' ⟨rfl, hbn⟩) | (go_at_call 27; refine (from_w w _ (by assumption) (pow_any _ _ _)).mono ?_; rintro e w' ⟨rfl, hbn⟩) | (go_at_call 31; refine (from_w w _ (by assumption) (exp_any _ _)).mono ?_; rintro e w' ⟨rfl, hbn⟩) | (go_at_call 33; refine (from_w w _ (by assumption) (logf_any _ _)).mono ?_; rintro e w' ⟨rfl, hbn⟩) | (go_at_call 30; refine (sPow_any _ _ _).mono ?_; rintro e w' ⟨rfl, hw⟩; obtain rfl := hw.symm) | (go_at_call 32; refine (sExp_any _ _).mono ?_; rintro e w' ⟨rfl, hw⟩; obtain rfl := hw.symm) | (go_at_call 34; refine (sLog_any _ _).mono ?_; rintro e w' ⟨rfl, hw⟩; obtain rfl := hw.symm))
            go_ret
            exact ⟨rfl, by assumption⟩
    · have hp' : powI a n < 0 := by omega
      clear hp
      by_cases hx : 1 ≤ x ∧ x ≤ 255
      · obtain ⟨f5, f6, f7, f8⟩ := powers3 hx
        have x0 : 0 < x := by omega
        have x1 : x < 256 := by omega
        clear hx
        go_wp2_with (first | (go_at_call 19; refine (from_w w _ (by assumption) (mul_any _ _ _)).mono ?_; rintro e w' ⟨rfl, hbn⟩) | (go_at_call 27; refine (from_w w _ (by assumption) (pow_any _ _ _)).mono ?_; rintro e w' ⟨rfl, hbn⟩) | (go_at_call 31; refine (from_w w _ (by assumption) (exp_any _ _)).mono ?_; rintro e w' ⟨rfl, hbn⟩) | (go_at_call 33; refine (from_w w _ (by assumption) (logf_any _ _)).mono ?_; rintro e w' ⟨rfl, hbn⟩) | (go_at_call 30; refine (sPow_any _ _ _).mono ?_; rintro e w' ⟨rfl, hw⟩; obtain rfl := hw.symm) | (go_at_call 32; refine (sExp_any _ _).mono ?_; rintro e w' ⟨rfl, hw⟩; obtain rfl := hw.symm) | (go_at_call 34; refine (sLog_any _ _).mono ?_; rintro e w' ⟨rfl, hw⟩; obtain rfl := hw.symm))
        go_ret
        exact ⟨rfl, by assumption⟩
      · have hl : logI x = -1 := by simp only [logI]; rw [if_neg hx]
        by_cases x0 : 0 < x
        · have x1 : ¬ x < 256 := by omega
          clear hx
          go_wp2_with (first | (go_at_call 19; refine (from_w w _ (by assumption) (mul_any _ _ _)).mono ?_; rintro e w' ⟨rfl, hbn⟩) | (go_at_call 27; refine (from_w w _ (by assumption) (pow_any _ _ _)).mono ?_; rintro e w' ⟨rfl, hbn⟩) | (go_at_call 31; refine (from_w w _ (by assumption) (exp_any _ _)).mono ?_; rintro e w' ⟨rfl, hbn⟩) | (go_at_call 33; refine (from_w w _ (by assumption) (logf_any _ _)).mono ?_; rintro e w' ⟨rfl, hbn⟩) | (go_at_call 30; refine (sPow_any _ _ _).mono ?_; rintro e w' ⟨rfl, hw⟩; obtain rfl := hw.symm) | (go_at_call 32; refine (sExp_any _ _).mono ?_; rintro e w' ⟨rfl, hw⟩; obtain rfl := hw.symm) | (go_at_call 34; refine (sLog_any _ _).mono ?_; rintro e w' ⟨rfl, hw⟩; obtain rfl := hw.symm))
          go_ret
          exact ⟨ret_bool (by simp; omega), by assumption⟩
        · clear hx
          go_wp2_with (first | (go_at_call 19; refine (from_w w _ (by assumption) (mul_any _ _ _)).mono ?_; rintro e w' ⟨rfl, hbn⟩) | (go_at_call 27; refine (from_w w _ (by assumption) (pow_any _ _ _)).mono ?_; rintro e w' ⟨rfl, hbn⟩) | (go_at_call 31; refine (from_w w _ (by assumption) (exp_any _ _)).mono ?_; rintro e w' ⟨rfl, hbn⟩) | (go_at_call 33; refine (from_w w _ (by assumption) (logf_any _ _)).mono ?_; rintro e w' ⟨rfl, hbn⟩) | (go_at_call 30; refine (sPow_any _ _ _).mono ?_; rintro e w' ⟨rfl, hw⟩; obtain rfl := hw.symm) | (go_at_call 32; refine (sExp_any _ _).mono ?_; rintro e w' ⟨rfl, hw⟩; obtain rfl := hw.symm) | (go_at_call 34; refine (sLog_any _ _).mono ?_; rintro e w' ⟨rfl, hw⟩; obtain rfl := hw.symm))
          go_ret
          exact ⟨rfl, by assumption⟩
end Go.Proofs.Ytedepnlccolpoaa
namespace Go.Proofs.Ytedepnlccolpoaa.fnPowers
open Go.ChangeShapes Go.WideShapes Go.ChangeAt Go.RowKit
open Go.ChangeMaps (open_string shut_string)
set_option linter.unusedVariables false
theorem own : ownKnob Try.prog.godebug = none := by kernel_rfl
theorem laidOut : laidOutB Try.prog = true := by kernel_rfl
set_option maxRecDepth 100000 in
theorem lifted (os : Os) (started : os.Started) (H : Type) (enc : TypeId × Value → H) :
    ReturnsInHanded {} Try.checked os 4 .any (Rows.fnPowersSpec.pre6 enc Try.prog Try.f4 Rows.fnPowersRow.domain false) (Rows.fnPowersSpec.post enc Try.prog Try.f4 false true false false) := by
  refine returnsInHanded_of_change (C := Try.checked) own started (by kernel_rfl) Try.func4
    (ChangeSpec.witness6 (enc := enc) (C := Try.checked) false ⟨#[], #[.slice none 0 0], []⟩ 8 (by kernel_rfl) (by kernel_rfl) (by kernel_rfl) (by kernel_rfl)) ?_
  intro W base args ds gs before hval0 hW hcnd _
  have hval : ∀ (j : Nat) t v, Try.f4.params[j]? = some t → args[j]? = some v → Value.okWide Try.prog W .any base t v := hval0
  have hW' := hW
  obtain ⟨p, q, hA0, hV, rfl, hfz, hnd⟩ := hW
  have hA : DataW.TrodAll enc Try.prog W 0 (fun _ => true) true Try.f4.params.toList args.toList ds p := hA0
  rw [Try.params4] at hA hval
  obtain ⟨v0, vs0, d0, ds0, p0, q0, hargs, rfl, rfl, h0, r0⟩ := trodAll_cons hA
  obtain ⟨rfl, rfl, rfl⟩ := trodAll_nil r0
  obtain rfl : args = #[v0] := by cases args; simp_all
  obtain ⟨rfl, rfl⟩ := trodVars_none hV
  obtain ⟨a0, len0, cap0, rfl⟩ := okWide_slice Try.underlying22 (hval 0 22 v0 rfl rfl)
  have k0 := h0
  have lt0 : ∀ x ∈ p0, x.block < W.heap.size := by obtain ⟨m, hm⟩ := k0; exact DataW.trod_lt m _ _ _ hm
  obtain ⟨z0, w0⟩ : ∃ zs, IsRow .u8 W a0 len0 cap0 zs := by
    obtain ⟨fuel, hf⟩ := h0
    rcases open_ints Try.underlying22 Try.underlying5 (by kernel_rfl) hf with ⟨hcs, _⟩ | ⟨x, l, c, zs, hcs, _, hl, hm, hz, _, hcell, hwz⟩
    · simp [Value.cells] at hcs
      obtain ⟨rfl, rfl, rfl⟩ := hcs
      exact ⟨[], .inl ⟨rfl, rfl, rfl, rfl⟩⟩
    · simp [Value.cells] at hcs
      obtain ⟨rfl, rfl, rfl⟩ := hcs
      exact ⟨zs, .inr ⟨_, rfl, hl, hm, by simpa using hz, hcell, hwz⟩⟩
  clear hA0 hval0
  refine (walk_FnPowers a0 len0 cap0 z0 W w0).mono fun e W' ⟨he, bel⟩ => ?_
  subst he
  exact ⟨_, rfl, _, _, _, [], _, [], hW', trodAll_mk1 (shut_bool Try.underlying4 _), (trodAll_cons_mk (Below.trod laidOut (by kernel_rfl) (of_decide_eq_true (by kernel_rfl)) k0 bel lt0) trodAll_mk0), rfl, bel.frame _, fun h => by cases h⟩
theorem over : Rows.fnPowersRow.holds Try.pinned (OpenSpec.ofChange Rows.fnPowersSpec) :=
  OpenClaim.holds_of_wide 4 Try.f4 rfl rfl rfl rfl rfl rfl rfl ⟨rfl, rfl, rfl, rfl, rfl⟩ rfl rfl rfl rfl rfl (by kernel_rfl) Try.func4 (by kernel_rfl)
    (of_decide_eq_true (by kernel_rfl)) (by unfold Func.isWrapper; first | (rw [if_pos (by decide +kernel)]; kernel_rfl) | (rw [if_neg (by decide +kernel)]; exact ⟨rfl, rfl⟩))
    (fun os started H enc _ => lifted os started H enc)
theorem proved : Rows.FnPowersSaid := over
#print axioms proved
end Go.Proofs.Ytedepnlccolpoaa.fnPowers
