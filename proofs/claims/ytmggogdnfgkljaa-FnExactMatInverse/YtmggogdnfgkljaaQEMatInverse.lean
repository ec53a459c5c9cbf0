/- For every input: the function MatInverse of the program answers as its model does, whatever its arguments are, leaves them as they were, and its answer owns its memory. No condition. -/
import Derived.Test.YtmggogdnfgkljaaQMInvS
import Derived.Test.YtmggogdnfgkljaaK2
namespace Go.Proofs.Ytmggogdnfgkljaa
open Go.ChangeShapes Go.WideShapes Go.ChangeAt Go.RowKit
set_option maxRecDepth 100000 in
set_option maxHeartbeats 4000000 in
theorem walk_FnExactMatInverse (a0 : Option Addr) (len0 cap0 : Nat) (L0 : Nat → Nat) (Z0 : Nat → Nat → Int) (w : World) (w0 : IsMat w a0 len0 L0 Z0) :
    Calls Try.prog 8 #[.slice a0 len0 cap0] w fun e w' => e = .returned (.bool true) ∧ Below w.heap.size w w' := by
  have hM0 := w0.1
  have hn0 := w0.2.1
  have hl0 := w0.2.2
  clear w0
  have hz0 := fun w h hh => szSS_any a0 len0 cap0 L0 Z0 1048576 w h hh hn0 hl0
  by_cases h0 : len0 + tot L0 len0 ≤ 1048576
  case neg =>
    have e0 : szF L0 len0 1048576 = -1 := by unfold szF; rw [if_neg h0]
    rw [e0] at hz0
    go_enter Try.func8, Try.ntmps8
    go_wp2_with fail
    refine (hz0 _ hM0 (by omega)).mono ?_
    rintro e w' ⟨rfl, hw⟩
    obtain rfl := hw.symm
    go_wp2
    go_ret
    exact ⟨rfl, Below.refl _ _⟩
  obtain ⟨left0, hleft0⟩ : ∃ q, 1048576 - (len0 + tot L0 len0) = q := ⟨_, rfl⟩
  have e0 : szF L0 len0 1048576 = (left0 : Int) := by unfold szF; rw [if_pos h0, hleft0]
  rw [e0] at hz0
  have neg0 : ¬ ((left0 : Int) < 0) := by omega
  have bt0 : tot L0 len0 ≤ 1048576 := by omega
  have bn0 : len0 ≤ 1048576 := by omega
  have bl0 : ∀ i, i < len0 → L0 i ≤ 1048576 := fun i hi => by have := tot_le L0 hi; omega
  have A0 := hM0.arg
  have hS := fun a w h => sInv_mat a len0 len0 L0 Z0 w h bl0
  have hI := fun a w h => inv_any' a len0 len0 L0 Z0 w h bl0
  have hr : ivR len0 L0 Z0 ≤ 16 := (ivR_le len0 L0 Z0).1
  have hcc : 0 < ivR len0 L0 Z0 → len0 ≤ 16 := (ivR_le len0 L0 Z0).2
  generalize ivR len0 L0 Z0 = r at *
  generalize ivOk len0 L0 Z0 = okf at *
  generalize Gm.iv (bZ len0 L0 Z0) len0 = F at *
  obtain ⟨c, ec⟩ : ∃ c, len0 = c := ⟨_, rfl⟩
  have hS : ∀ a w, MatAt w a len0 L0 Z0 → Calls Try.prog 17 #[.slice a len0 len0] w fun e w' => ∃ v, e = .returned (.tuple #[v, .bool okf]) ∧ ResM w w' v r c F ∧ Below w.heap.size w w' := by rw [← ec]; exact hS
  have hI : ∀ a w, MatAt w a len0 L0 Z0 → Calls Try.prog 16 #[.slice a len0 len0] w fun e w' => ∃ v, e = .returned (.tuple #[v, .bool okf]) ∧ ResM w w' v r c F ∧ Below w.heap.size w w' := by rw [← ec]; exact hI
  have hc : ∀ i, i < r → c ≤ 1048576 := fun i _ => by omega
  have ht : tot (fun _ => c) r ≤ 1048576 := tot_small hr (fun h => by have := hcc h; omega)
  clear ec
  have hfl : (okf != okf) = false := by simp
  have hr20 : r ≤ 1048576 := by omega
  obtain ⟨tq, htq⟩ : ∃ tq, 1 + tot (fun _ => c) r = tq := ⟨_, rfl⟩
  have htq0 : ¬ ((tq : Int) < 0) := by omega
  go_enter Try.func8, Try.ntmps8
  go_wp2_with fail
  refine (hz0 _ hM0 (by omega)).mono ?_
  rintro e w' ⟨rfl, hw⟩
  obtain rfl := hw.symm
  clear hw hz0
  clear hM0
  go_wp2_with fail
  refine Calls.mono (toSS_any _ len0 cap0 L0 Z0 _ A0.at bn0 bl0) ?_
  rintro e v1 ⟨rfl, ⟨AA1, p0⟩, b1⟩
  have s1 := b1.size
  replace A0 := A0.keep b1
  have cum := b1
  have cumS := cum.size
  clear b1
  go_wp2_with fail
  refine Calls.mono (hS _ _ p0.at) ?_
  rintro e v2 ⟨u2, rfl, ⟨aW, cW, AW, CW, rfl, W⟩, b2⟩
  have s2 := b2.size
  replace A0 := A0.keep (b2.mono cumS)
  replace p0 := p0.below b2
  replace cum := below2 cum b2
  replace cumS := cum.size
  clear b2
  clear p0
  go_wp2_with fail
  refine Calls.mono (toSS_any _ len0 cap0 L0 Z0 _ A0.at bn0 bl0) ?_
  rintro e v3 ⟨rfl, ⟨AA3, x0⟩, b3⟩
  have s3 := b3.size
  replace A0 := A0.keep (b3.mono cumS)
  replace W := W.below b3
  replace cum := below2 cum b3
  replace cumS := cum.size
  clear b3
  go_wp2_with fail
  refine Calls.mono (hI _ _ x0.at) ?_
  rintro e v4 ⟨u4, rfl, ⟨aG, cG, AG, CG, rfl, G⟩, b4⟩
  have s4 := b4.size
  replace A0 := A0.keep (b4.mono cumS)
  replace W := W.below b4
  replace x0 := x0.below b4
  replace cum := below2 cum b4
  replace cumS := cum.size
  clear b4
  go_wp2_with fail
  refine Calls.mono (eqSS_same _ _ _ _ _ _ _ _ G.at W.at hr20 hc) ?_
  rintro e v5 ⟨rfl, b5⟩
  have s5 := b5.size
  replace A0 := A0.keep (b5.mono cumS)
  replace W := W.below b5
  replace x0 := x0.below b5
  replace G := G.below b5
  replace cum := below2 cum b5
  replace cumS := cum.size
  clear b5
  go_wp2_with fail
  refine Calls.mono (toSS_any _ len0 cap0 L0 Z0 _ A0.at bn0 bl0) ?_
  rintro e v6 ⟨rfl, ⟨AA6, y0⟩, b6⟩
  have s6 := b6.size
  replace A0 := A0.keep (b6.mono cumS)
  replace W := W.below b6
  replace x0 := x0.below b6
  replace G := G.below b6
  replace cum := below2 cum b6
  replace cumS := cum.size
  clear b6
  go_wp2_with fail
  refine Calls.mono (eqSS_same _ _ _ _ _ _ _ _ x0.at y0.at bn0 bl0) ?_
  rintro e v7 ⟨rfl, b7⟩
  have s7 := b7.size
  replace A0 := A0.keep (b7.mono cumS)
  replace W := W.below b7
  replace x0 := x0.below b7
  replace G := G.below b7
  replace y0 := y0.below b7
  replace cum := below2 cum b7
  replace cumS := cum.size
  clear b7
  clear y0
  obtain ⟨q0, hq0⟩ : ∃ q, 1 + tot L0 len0 = q := ⟨_, rfl⟩
  go_wp2_with fail
  refine Calls.mono (markSS_any _ _ _ _ _ _ _ _ _ 1 q0 _ x0 bn0 bt0 (by omega) (by omega)) ?_
  rintro e v8 ⟨rfl, x0', T8⟩
  have s8 := T8.size
  replace A0 := A0.keep (T8.below (by omega) (by omega))
  replace W := W.turned T8 (by omega)
  replace G := G.turned T8 (by omega)
  replace cum := cum.trans (T8.below (by omega) (by omega))
  replace cumS := cum.size
  clear T8
  clear x0
  have x0 := x0'
  clear x0'
  clear x0
  have hk0 : ¬ ((q0 : Int) < 0) := by omega
  go_wp2_with fail
  refine Calls.mono (eqSS_same _ _ _ _ _ _ _ _ G.at W.at hr20 hc) ?_
  rintro e v9 ⟨rfl, b9⟩
  have s9 := b9.size
  replace A0 := A0.keep (b9.mono cumS)
  replace W := W.below b9
  replace G := G.below b9
  replace cum := below2 cum b9
  replace cumS := cum.size
  clear b9
  go_wp2_with fail
  refine Calls.mono (markSS_any _ _ _ _ _ _ _ _ _ 1 tq _ G hr20 ht (by omega) (by omega)) ?_
  rintro e v10 ⟨rfl, G', T10⟩
  have s10 := T10.size
  replace A0 := A0.keep (T10.below (by omega) (by omega))
  replace W := W.turned T10 (by omega)
  replace cum := cum.trans (T10.below (by omega) (by omega))
  replace cumS := cum.size
  clear T10
  clear G
  have G := G'
  clear G'
  go_wp2_with fail
  refine Calls.mono (heldSS_any _ _ _ _ 1 tq _ G.at hr20 ht (by omega) htq) ?_
  rintro e w' ⟨rfl, hw⟩
  obtain rfl := hw.symm
  clear hw
  go_wp2_with fail
  refine Calls.mono (toSS_any _ len0 cap0 L0 Z0 _ A0.at bn0 bl0) ?_
  rintro e v11 ⟨rfl, ⟨AA11, z0c⟩, b11⟩
  have s11 := b11.size
  replace A0 := A0.keep (b11.mono cumS)
  replace W := W.below b11
  replace G := G.below b11
  replace cum := below2 cum b11
  replace cumS := cum.size
  clear b11
  go_wp2_with fail
  refine Calls.mono (hI _ _ z0c.at) ?_
  rintro e v12 ⟨u12, rfl, ⟨aH, cH, AH, CH, rfl, H⟩, b12⟩
  have s12 := b12.size
  replace A0 := A0.keep (b12.mono cumS)
  replace W := W.below b12
  replace G := G.below b12
  replace z0c := z0c.below b12
  replace cum := below2 cum b12
  replace cumS := cum.size
  clear b12
  clear z0c
  go_wp2_with fail
  refine Calls.mono (eqSS_same _ _ _ _ _ _ _ _ H.at W.at hr20 hc) ?_
  rintro e v13 ⟨rfl, b13⟩
  have s13 := b13.size
  replace A0 := A0.keep (b13.mono cumS)
  replace W := W.below b13
  replace G := G.below b13
  replace H := H.below b13
  replace cum := below2 cum b13
  replace cumS := cum.size
  clear b13
  go_wp2_with fail
  refine Calls.mono (heldSS_any _ _ _ _ 1 tq _ G.at hr20 ht (by omega) htq) ?_
  rintro e w' ⟨rfl, hw⟩
  obtain rfl := hw.symm
  clear hw
  go_wp2
  go_ret
  exact ⟨rfl, cum⟩
end Go.Proofs.Ytmggogdnfgkljaa
namespace Go.Proofs.Ytmggogdnfgkljaa.fnExactMatInverse
open Go.ChangeShapes Go.WideShapes Go.ChangeAt Go.RowKit
open Go.ChangeMaps (open_string shut_string)
set_option linter.unusedVariables false
theorem own : ownKnob Try.prog.godebug = none := by kernel_rfl
theorem laidOut : laidOutB Try.prog = true := by kernel_rfl
set_option maxRecDepth 100000 in
theorem lifted (os : Os) (started : os.Started) (H : Type) (enc : TypeId × Value → H) :
    ReturnsInHanded {} Try.checked os 8 .any (Rows.fnExactMatInverseSpec.pre6 enc Try.prog Try.f8 Rows.fnExactMatInverseRow.domain false) (Rows.fnExactMatInverseSpec.post enc Try.prog Try.f8 false true false false) := by
  refine returnsInHanded_of_change (C := Try.checked) own started (by kernel_rfl) Try.func8
    (ChangeSpec.witness6 (enc := enc) (C := Try.checked) false ⟨#[], #[.slice none 0 0], []⟩ 8 (by kernel_rfl) (by kernel_rfl) (by kernel_rfl) (by kernel_rfl)) ?_
  intro W base args ds gs before hval0 hW hcnd _
  have hval : ∀ (j : Nat) t v, Try.f8.params[j]? = some t → args[j]? = some v → Value.okWide Try.prog W .any base t v := hval0
  have hW' := hW
  obtain ⟨p, q, hA0, hV, rfl, hfz, hnd⟩ := hW
  have hA : DataW.TrodAll enc Try.prog W 0 (fun _ => true) true Try.f8.params.toList args.toList ds p := hA0
  rw [Try.params8] at hA hval
  obtain ⟨v0, vs0, d0, ds0, p0, q0, hargs, rfl, rfl, h0, r0⟩ := trodAll_cons hA
  obtain ⟨rfl, rfl, rfl⟩ := trodAll_nil r0
  obtain rfl : args = #[v0] := by cases args; simp_all
  obtain ⟨rfl, rfl⟩ := trodVars_none hV
  obtain ⟨a0, len0, cap0, rfl⟩ := okWide_slice Try.underlying24 (hval 0 24 v0 rfl rfl)
  have k0 := h0
  have lt0 : ∀ x ∈ p0, x.block < W.heap.size := by obtain ⟨m, hm⟩ := k0; exact DataW.trod_lt m _ _ _ hm
  obtain ⟨L0, Z0, w0⟩ : ∃ L Z, IsMat W a0 len0 L Z := by
    obtain ⟨fuel, hf⟩ := h0
    rcases Go.Deep.open_int_rows Try.underlying24 Try.underlying31 Try.underlying3 (by kernel_rfl) (by kernel_rfl) hf with ⟨hcs, _⟩ | ⟨x, l, c, A, L, C, Z, hcs, _, hl, hm, _, hrow⟩
    · simp [Value.cells] at hcs
      obtain ⟨rfl, rfl, rfl⟩ := hcs
      exact ⟨fun _ => 0, fun _ _ => 0, fun i hi => absurd hi (Nat.not_lt_zero _), Nat.zero_le _, fun i hi => absurd hi (Nat.not_lt_zero _)⟩
    · simp [Value.cells] at hcs
      obtain ⟨rfl, rfl, rfl⟩ := hcs
      exact ⟨L, _, isMat_of hl hm hrow⟩
  clear hA0 hval0
  refine (walk_FnExactMatInverse a0 len0 cap0 L0 Z0 W w0).mono fun e W' ⟨he, bel⟩ => ?_
  subst he
  exact ⟨_, rfl, _, _, _, [], _, [], hW', trodAll_mk1 (shut_bool Try.underlying4 _), (trodAll_cons_mk (Below.trod laidOut (by kernel_rfl) (of_decide_eq_true (by kernel_rfl)) k0 bel lt0) trodAll_mk0), rfl, bel.frame _, fun h => by cases h⟩
theorem over : Rows.fnExactMatInverseRow.holds Try.pinned (OpenSpec.ofChange Rows.fnExactMatInverseSpec) :=
  OpenClaim.holds_of_wide 8 Try.f8 rfl rfl rfl rfl rfl rfl rfl ⟨rfl, rfl, rfl, rfl, rfl⟩ rfl rfl rfl rfl rfl (by kernel_rfl) Try.func8 (by kernel_rfl)
    (of_decide_eq_true (by kernel_rfl)) (by unfold Func.isWrapper; first | (rw [if_pos (by decide +kernel)]; kernel_rfl) | (rw [if_neg (by decide +kernel)]; exact ⟨rfl, rfl⟩))
    (fun os started H enc _ => lifted os started H enc)
theorem proved : Rows.FnExactMatInverseSaid := over
#print axioms proved
end Go.Proofs.Ytmggogdnfgkljaa.fnExactMatInverse
